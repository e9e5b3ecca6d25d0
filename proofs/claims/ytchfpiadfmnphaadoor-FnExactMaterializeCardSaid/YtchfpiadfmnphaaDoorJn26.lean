/- A map of the call's own, keyed by digests: made, put into, kept among what stands. What a store is asked for: the text of a digest. The map tells what the list tells. What a store holds, by its digests. On the program's side. Is a store right? On the program's side. Is a store right? On the specification's side. A text by its digest: in the list, in the map. StoreGet, on both sides. What an image is made of: its layers, each by its digest and of its size. An image's layers out of the map. Materialize of the program. Materialize of the specification. Images in the laws' helpers: held against others, marked, found marked. The law FnExactMaterialize, walked. -/
import Derived.Test.YtchfpiadfmnphaaDoorJn14
import Derived.Test.YtchfpiadfmnphaaDoorJn25
import Derived.Test.YtchfpiadfmnphaaDoorJn11
import Derived.Test.YtchfpiadfmnphaaDoorJn10
import Derived.Test.YtchfpiadfmnphaaDoorJn6
import Derived.Test.YtchfpiadfmnphaaDoorJn19
import Derived.Test.YtchfpiadfmnphaaDoorJn20
import Derived.Deep.RegionHeld3
namespace Go.Proofs.YtchfpiadfmnphaaDoor
open Go.RowKit Go.Maps
set_option linter.unusedVariables false

def mapD (L : List ByteArray) : DataW Value := L.foldl (fun D x => D.put (kyl (digA x)) (.held (.agg #[.string x]))) (.map [])
theorem mapD_snoc (L : List ByteArray) (x : ByteArray) : mapD (L ++ [x]) = (mapD L).put (kyl (digA x)) (.held (.agg #[.string x])) := by
  unfold mapD
  rw [List.foldl_append]
  rfl
/- The map at block B: each text by its digest. -/
def MapK (w : World) (B : Nat) (L : List ByteArray) : Prop := w.ownsMap Tryd.prog 71 valK B L.length (mapD L)
theorem MapK.lt {w : World} {B : Nat} {L : List ByteArray} (h : MapK w B L) : B < w.heap.size := World.ownsMap.lt h
theorem MapK.same {w w' : World} {B : Nat} {L : List ByteArray} (h : MapK w B L) (hb : w'.heap[B]? = w.heap[B]?) : MapK w' B L := by
  obtain ⟨es, clock, h1, h2⟩ := h
  exact ⟨es, clock, hb.trans h1, h2⟩
theorem MapK.snoc {w : World} {B k : Nat} {l : List ByteArray} {x : ByteArray} (h : MapK w B (l.take k ++ [x])) (hk : k < l.length) (hx : l[k] = x) : MapK w B (l.take (k + 1)) := by
  rw [← hx, List.take_append_getElem] at h
  exact h
theorem wpList_makeMapK {ops : Array Oper} {rest : List Oper} {o : Oper} {a : Act} {w : World} {Q : Exit → Act → World → Prop} (hg : o.guard = none) (t : TypeId) (ho : o.op = .makeMap t none)
    (h : ∀ B w', w.heap.size = B → B < w'.heap.size → Below w.heap.size w w' → MapK w' B [] → wpList Tryd.prog ops Q rest (a.put o.dst (.map (some B))) w') : wpList Tryd.prog ops Q (o :: rest) a w := by
  refine wpList_plain hg fun K hK => ?_
  have hr := run_makeMap (P := Tryd.prog) t w
  unfold Oper.wp execOp
  simp only [ho, Option.map_none, hr, Sem.run_bind, Sem.run_pure, Result.andThen_ok]
  have hm := World.ownsMap_made w Tryd.prog 71 valK
  exact hK _ _ (h _ _ rfl hm.lt ((Below.refl _ w).alloc (Nat.le_refl _) _) hm)
theorem upon_makeMapK {o : Oper} {a : Act} {w : World} {K : Act → World → Prop} {Q : Exit → Act → World → Prop} (t : TypeId)
    (h : ∀ B w', w.heap.size = B → B < w'.heap.size → Below w.heap.size w w' → MapK w' B [] → K (a.put o.dst (.map (some B))) w') : Oper.upon Tryd.prog o a K Q ((Sem.run Tryd.prog (Instr.makeMap t none) w).andThen fun a w' => Result.ok (Next.value a) w') := by
  rw [run_makeMap]
  have hm := World.ownsMap_made w Tryd.prog 71 valK
  exact h _ _ rfl hm.lt ((Below.refl _ w).alloc (Nat.le_refl _) _) hm
theorem wpList_putK {ops : Array Oper} {rest : List Oper} {o : Oper} {a : Act} {w : World} {Q : Exit → Act → World → Prop} (hg : o.guard = none) (m x v : Operand) (ho : o.op = .mapUpdate 51 m x v)
    (B : Nat) (L : List ByteArray) (t X : ByteArray) (hm : a.eval m = .map (some B)) (hx : a.eval x = .agg (kyv t).toArray) (hv : a.eval v = .agg #[.string X]) (hM : MapK w B L) (ht : digA X = t) (h32 : t.size = 32) (hn : L.length < maxLen)
    (h : ∀ w', MapK w' B (L ++ [X]) → w.grownBy w' (some B) → wpList Tryd.prog ops Q rest (a.put o.dst undef) w') : wpList Tryd.prog ops Q (o :: rest) a w := by
  refine wpList_mapUpdate_own w hg m x v 51 ho 71 69 keyedK Tryd.underlying51 valK B L.length (mapD L) hm hM hn _ _ (kyl t) hx hv (key_of t h32) (.held (.agg #[.string X])) [] rfl fun w' h1 h2 => h w' ?_ h2
  unfold MapK
  rw [mapD_snoc, List.length_append, ht]
  exact h1
section
variable {G : List Nat} {w0 w w2 : World} {R : List (Nat × List Value)} {T : List Thing}
theorem Sta.map0 {B : Nat} (h : Hid (Sta G w0 R T w)) (hb : w.heap.size = B) (hlt : B < w2.heap.size) (hB : Below w.heap.size w w2) (hM : MapK w2 B []) : Hid (Sta G w0 R (⟨fun k => k = B, fun w' => MapK w' B []⟩ :: T) w2) := by
  have h2 := (Sta.call h hB).out
  refine ⟨h2.bel, h2.row, fun t ht => ?_, h2.dif, List.pairwise_cons.2 ⟨fun t ht k hk hd => ?_, h2.dis⟩, fun x hx t ht hd => ?_⟩
  · rcases List.mem_cons.1 ht with rfl | ht
    · exact ⟨fun k hk => hk ▸ hlt, fun w' hw => hM.same (hw.blk B hlt (fun hn => hn rfl))⟩
    · exact h2.thg t ht
  · have := (h.out.thg t ht).lt k hd
    have hk' : k = B := hk
    omega
  · rcases List.mem_cons.1 ht with rfl | ht
    · have := (h.out.row x hx).2.2.lt (h.out.row x hx).2.1
      have : x.1 = B := hd
      omega
    · exact h2.off x hx t ht hd
theorem Sta.upd {B : Nat} {P : World → Prop} {L : List ByteArray} (i : Nat) (h : Hid (Sta G w0 R T w)) (hi : T[i]? = some ⟨fun k => k = B, P⟩) (hb0 : w0.heap.size ≤ B) (hM : MapK w2 B L) (hg : w.grownBy w2 (some B)) : Hid (Sta G w0 R (T.set i ⟨fun k => k = B, fun w' => MapK w' B L⟩) w2) := by
  obtain ⟨hlt, he⟩ := List.getElem?_eq_some_iff.1 hi
  have hmem : (⟨fun k => k = B, P⟩ : Thing) ∈ T := he ▸ List.getElem_mem hlt
  have hm : Mrk (fun k => k = B) w w2 := ⟨fun k hk hn => hg.block k hk (fun e => hn (by injection e)), fun B' hB hb => ⟨hg.os, hg.tape, hg.output, hg.size, fun k hk => hg.block k (Nat.lt_of_lt_of_le hk hB) (fun e => by injection e with e; have := hb B rfl; omega)⟩, hg.size⟩
  have hset : ∀ t ∈ T.set i ⟨fun k => k = B, fun w' => MapK w' B L⟩, t = ⟨fun k => k = B, fun w' => MapK w' B L⟩ ∨ (t ∈ T ∧ ∀ k, k = B → ¬ t.dom k) := fun t ht => by
    obtain ⟨j, hj, rfl⟩ := List.mem_iff_getElem.1 ht
    rw [List.getElem_set]
    rw [List.length_set] at hj
    by_cases e : i = j
    · rw [if_pos e]; exact Or.inl rfl
    · rw [if_neg e]
      refine Or.inr ⟨List.getElem_mem hj, fun k hk hd => ?_⟩
      rcases Nat.lt_or_gt_of_ne e with h1 | h1
      · have := List.pairwise_iff_getElem.1 h.out.dis i j hlt hj h1 k
        rw [he] at this
        exact this hk hd
      · have := List.pairwise_iff_getElem.1 h.out.dis j i hj hlt h1 k hd
        rw [he] at this
        exact this hk
  refine ⟨h.out.bel.step ⟨hg.os, hg.tape, hg.output, hg.size, fun k hk => absurd hk (Nat.not_lt_zero _)⟩ fun k hk _ => hg.block k (Nat.lt_of_lt_of_le hk h.out.bel.size) (fun e => by injection e with e; omega), fun x hx => ⟨(h.out.row x hx).1, (h.out.row x hx).2.1, hm.row (h.out.row x hx).2.2 (h.out.row x hx).2.1 (h.out.off x hx _ hmem)⟩, fun t ht => ?_, h.out.dif, ?_, fun x hx t ht => ?_⟩
  · rcases hset t ht with rfl | ⟨ht, hd⟩
    · exact ⟨fun k hk => by have hk' : k = B := hk; rw [hk']; exact hM.lt, fun w' hw => hM.same (hw.blk B hM.lt (fun hn => hn rfl))⟩
    · exact (h.out.thg t ht).chg hm hd
  · rw [List.pairwise_iff_getElem]
    intro a b ha hb2 hab
    rw [List.length_set] at ha hb2
    have h1 := List.pairwise_iff_getElem.1 h.out.dis a b ha hb2 hab
    rw [List.getElem_set, List.getElem_set]
    by_cases e1 : i = a
    · subst e1
      rw [if_pos rfl, if_neg (by omega)]
      rw [he] at h1
      exact h1
    · rw [if_neg e1]
      by_cases e2 : i = b
      · subst e2
        rw [if_pos rfl]
        rw [he] at h1
        exact h1
      · rw [if_neg e2]
        exact h1
  · rcases hset t ht with rfl | ⟨ht, _⟩
    · exact (h.out.off x hx ⟨fun k => k = B, P⟩ hmem : ¬ x.1 = B)
    · exact h.out.off x hx t ht
end
end Go.Proofs.YtchfpiadfmnphaaDoor
namespace Go.Proofs.YtchfpiadfmnphaaDoor
open Go.RowKit Go.Maps
set_option linter.unusedVariables false

def findO (l : List ByteArray) (t : ByteArray) : Option ByteArray := l.find? (fun x => decide (digA x = t))
theorem takeS {l : List ByteArray} {k : Nat} {x : ByteArray} (hk : k < l.length) (hx : l[k] = x) : l.take (k + 1) = l.take k ++ [x] := by rw [← hx, List.take_append_getElem]
theorem findO_snoc (L : List ByteArray) (x t : ByteArray) : findO (L ++ [x]) t = (findO L t).or (if digA x = t then some x else none) := by
  unfold findO
  rw [List.find?_append]
  by_cases h : digA x = t <;> simp [h]
theorem findO_step {l : List ByteArray} {k : Nat} {x t : ByteArray} (hk : k < l.length) (hx : l[k] = x) (h : findO (l.take k) t = none) (he : ¬ digA x = t) : findO (l.take (k + 1)) t = none := by
  rw [takeS hk hx, findO_snoc, h, if_neg he]; rfl
theorem findO_hit {l : List ByteArray} {k : Nat} {x t : ByteArray} (hk : k < l.length) (hx : l[k] = x) (h : findO (l.take k) t = none) (he : digA x = t) : findO l t = some x := by
  have h2 : findO (l.take (k + 1)) t = some x := by rw [takeS hk hx, findO_snoc, h, if_pos he]; rfl
  rw [← List.take_append_drop (k + 1) l]
  unfold findO at h2 ⊢
  rw [List.find?_append, h2]
  rfl
theorem findO_all {l : List ByteArray} {n : Nat} {t : ByteArray} (h : findO (l.take n) t = none) (hn : l.length = n) : findO l t = none := by
  rw [List.take_of_length_le (Nat.le_of_eq hn)] at h; exact h
theorem findO_le {l : List ByteArray} {t x : ByteArray} (h : findO l t = some x) : x ∈ l ∧ digA x = t := by
  unfold findO at h
  exact ⟨List.mem_of_find?_eq_some h, by have := List.find?_some h; simpa using this⟩
theorem nmLt_trans {a b c : ByteArray} (h : nmLt a b = true) (k : nmLt b c = true) : nmLt a c = true := by
  unfold nmLt at *
  rw [blt_eq] at *
  exact decide_eq_true (List.lt_trans (of_decide_eq_true h) (of_decide_eq_true k))
theorem nmLt_irr (a : ByteArray) : nmLt a a = false := by
  unfold nmLt
  rw [blt_eq]
  exact decide_eq_false (List.lt_irrefl _)
theorem StOk.lt {l : List ByteArray} (h : StOk l) (i : Nat) : ∀ d (hj : i + d + 1 < l.length), nmLt (digA (l[i]'(by omega))) (digA l[i + d + 1]) = true
  | 0, hj => h.2.2 i hj hj
  | d + 1, hj => nmLt_trans (StOk.lt h i d (by omega)) (h.2.2 (i + d + 1) hj hj)
theorem StOk.ne {l : List ByteArray} (h : StOk l) {i j : Nat} (hij : i < j) (hj : j < l.length) : ¬ digA (l[i]'(by omega)) = digA l[j] := fun e => by
  obtain ⟨d, rfl⟩ : ∃ d, j = i + d + 1 := ⟨j - i - 1, by omega⟩
  have := StOk.lt h i d hj
  rw [e, nmLt_irr] at this
  cases this
theorem kyl_inj {a b : ByteArray} (ha : a.size = 32) (hb : b.size = 32) (h : kyl a = kyl b) : a = b := by
  have h1 := keyedK.inj (key_of a ha) (h ▸ key_of b hb)
  injection h1 with h1
  have h2 : kyv a = kyv b := by simpa using congrArg Array.toList h1
  unfold kyv bvs at h2
  have h3 := (List.map_inj_right (fun x y e => by
    injection e with _ e
    exact UInt8.toNat_inj.1 (by omega))).1 h2
  obtain ⟨⟨x⟩⟩ := a
  obtain ⟨⟨y⟩⟩ := b
  simp at h3
  rw [h3]
theorem isMap_mapD (L : List ByteArray) : IsMap (mapD L) := by
  unfold mapD
  suffices h : ∀ (L : List ByteArray) (D : DataW Value), IsMap D → IsMap (L.foldl (fun D x => D.put (kyl (digA x)) (.held (.agg #[.string x]))) D) from h L _ isMap_empty
  intro L
  induction L with
  | nil => exact fun D h => h
  | cons x L ih =>
    intro D ⟨es, hD⟩
    exact ih _ (by subst hD; exact ⟨_, rfl⟩)
theorem mapD_at {l : List ByteArray} {t : ByteArray} (h : StOk l) (ht : t.size = 32) (zd : DataW Value) : ∀ k, k ≤ l.length → (mapD (l.take k)).atKey (kyl t) zd = ((findO (l.take k) t).map fun x => DataW.held (.agg #[.string x])).getD zd
  | 0, _ => by simp [mapD, findO, DataW.atKey]
  | k + 1, hk => by
    have hkl : k < l.length := by omega
    have ih := mapD_at h ht zd k (by omega)
    rw [takeS hkl rfl, mapD_snoc, findO_snoc]
    by_cases e : digA l[k] = t
    · have hno : findO (l.take k) t = none := by
        unfold findO
        rw [List.find?_eq_none]
        intro x hx
        obtain ⟨i, hi, rfl⟩ := List.mem_iff_getElem.1 hx
        have hi2 : i < k := by rw [List.length_take] at hi; omega
        rw [List.getElem_take]
        simp only [decide_eq_true_eq]
        intro e2
        exact StOk.ne h hi2 hkl (e2.trans e.symm)
      rw [hno, if_pos e, e, atKey_put_same (k := kyl t) (isMap_mapD _) (by unfold kyl; trivial)]
      rfl
    · have hne : ¬ kyl t = kyl (digA l[k]) := fun q => e (kyl_inj ht (digA_32 (h.2.1 k hkl hkl)) q).symm
      rw [atKey_put_other hne, ih, if_neg e, Option.or_none]
theorem findO_size {l : List ByteArray} {t x : ByteArray} (h : StOk l) (hf : findO l t = some x) : t.size = 32 := by
  obtain ⟨h1, h2⟩ := findO_le hf
  obtain ⟨i, hi, rfl⟩ := List.mem_iff_getElem.1 h1
  rw [← h2]
  exact digA_32 (h.2.1 i hi hi)
/- What StoreGet answers. -/
noncomputable def getC (l : List ByteArray) (t : ByteArray) : Int := if 20000 < t.size then 2 else if boolP (StOk l) = true then (if (findO l t).isSome = true then 0 else 9) else 1
noncomputable def getY (l : List ByteArray) (t : ByteArray) : ByteArray := if 20000 < t.size then ⟨#[]⟩ else if boolP (StOk l) = true then (findO l t).getD ⟨#[]⟩ else ⟨#[]⟩
theorem get_cases (l : List ByteArray) (t : ByteArray) : (20000 < t.size ∧ getC l t = 2 ∧ getY l t = ⟨#[]⟩) ∨ (¬ 20000 < t.size ∧ ¬ StOk l ∧ getC l t = 1 ∧ getY l t = ⟨#[]⟩) ∨ (¬ 20000 < t.size ∧ StOk l ∧ findO l t = none ∧ getC l t = 9 ∧ getY l t = ⟨#[]⟩) ∨ ∃ X, ¬ 20000 < t.size ∧ StOk l ∧ findO l t = some X ∧ getC l t = 0 ∧ getY l t = X := by
  unfold getC getY
  by_cases h1 : 20000 < t.size
  · exact Or.inl ⟨h1, if_pos h1, if_pos h1⟩
  · rw [if_neg h1, if_neg h1]
    by_cases h2 : StOk l
    · have h3 := boolP_yes h2
      rw [if_pos h3, if_pos h3]
      cases hf : findO l t with
      | none => exact Or.inr (Or.inr (Or.inl ⟨h1, h2, rfl, rfl, rfl⟩))
      | some X => exact Or.inr (Or.inr (Or.inr ⟨X, h1, h2, rfl, rfl, rfl⟩))
    · have h3 := boolP_no h2
      rw [if_neg (by rw [h3]; decide), if_neg (by rw [h3]; decide)]
      exact Or.inr (Or.inl ⟨h1, h2, rfl, rfl⟩)
def getV (o : Option ByteArray) : Value := match o with
  | some x => .tuple #[.string x, .bool true]
  | none => .tuple #[.string ⟨#[]⟩, .bool false]
theorem zeroSt (w : World) : (zeroValue 69).run Tryd.prog w = .ok (.agg #[.string ⟨#[]⟩]) w := by
  have hz := Tryd.zT_implstored
  cases hq : Tryd.prog.info? 69 with
  | none => rw [hq] at hz; cases hz
  | some i =>
    rw [hq] at hz
    simp only [Option.map_some, Option.some.injEq] at hz
    simp [zeroValue, typeInfo, hq, hz]
set_option maxRecDepth 100000 in
theorem lookK {w : World} {B : Nat} {l : List ByteArray} {t : ByteArray} (hM : MapK w B l) (ht : t.size = 32) (h : StOk l) (hz : (zeroValue 69).run Tryd.prog w = .ok (.agg #[.string ⟨#[]⟩]) w) :
    (Instr.lookup 51 (.map (some B)) (.agg (kyv t).toArray) true).run Tryd.prog w = .ok (match findO l t with | some x => .tuple #[.agg #[.string x], .bool true] | none => .tuple #[.agg #[.string ⟨#[]⟩], .bool false]) w := by
  obtain ⟨es, clock, hb, F, _, hD⟩ := hM
  have hat := fun zd => mapD_at h ht zd l.length (Nat.le_refl _)
  rw [List.take_length, hD] at hat
  rcases Maps.fit_look true keyedK Tryd.underlying51 hz hb F (key_of t ht) with ⟨hrun, _, h2⟩ | ⟨e0, y, _, _, hrun, hR, h2, _⟩
  · cases hf : findO l t with
    | none => simpa using hrun
    | some x =>
      have h3 := (h2 .nil).symm.trans (hat .nil)
      rw [hf] at h3
      cases h3
  · have hy : y.1 = .held e0.val := by
      unfold valK at hR
      injection hR with hR
      rw [← hR]
    cases hf : findO l t with
    | none =>
      have h3 := (h2 .nil).symm.trans (hat .nil)
      rw [hf, hy] at h3
      cases h3
    | some x =>
      have h3 := (h2 .nil).symm.trans (hat .nil)
      rw [hf, hy] at h3
      have h4 : e0.val = .agg #[.string x] := by
        have h5 : (DataW.held e0.val : DataW Value) = .held (.agg #[.string x]) := h3
        injection h5
      rw [h4] at hrun
      simpa using hrun
theorem wpList_lookK {ops : Array Oper} {rest : List Oper} {o : Oper} {a : Act} {w : World} {Q : Exit → Act → World → Prop} (hg : o.guard = none) (m x : Operand) (ho : o.op = .lookup 51 m x true)
    (B : Nat) (l : List ByteArray) (t : ByteArray) (v : Value) (hm : a.eval m = .map (some B)) (hx : a.eval x = .agg (kyv t).toArray) (hM : MapK w B l) (ht : t.size = 32) (hS : StOk l) (hv : (match findO l t with | some x => .tuple #[.agg #[.string x], .bool true] | none => .tuple #[.agg #[.string ⟨#[]⟩], .bool false]) = v)
    (h : wpList Tryd.prog ops Q rest (a.put o.dst v) w) : wpList Tryd.prog ops Q (o :: rest) a w := by
  refine wpList_plain hg fun K hK => ?_
  have hr := lookK hM ht hS (zeroSt w)
  rw [hv] at hr
  unfold Oper.wp
  simp [execOp, ho, hm, hx, hr, Result.andThen]
  exact hK _ _ h
end Go.Proofs.YtchfpiadfmnphaaDoor
namespace Go.Proofs.YtchfpiadfmnphaaDoor
open Go.RowKit
set_option linter.unusedVariables false

/- What shelve tells. -/
def ShP (l : List ByteArray) (w : World) (e : Ending) (w' : World) : Prop :=
  (StOk l ∧ ∃ B, e = .returned (.tuple #[.map (some B), .bool true]) ∧ Made w w' (fun w2 => MapK w2 B l)) ∨ (¬ StOk l ∧ e = .returned (.tuple #[.map none, .bool false]))
theorem SA.here {w : World} {b o : Nat} {l : List ByteArray} (h : SA w (some ⟨b, o, none⟩) l) (k : Nat) (hk : k < l.length) : w.cell? ⟨b, o + k, none⟩ = some (.string l[k]) := by
  obtain ⟨b', o', he, hc⟩ := h k hk
  injection he with he
  injection he with h1 h2
  subst h1 h2
  exact hc
set_option maxRecDepth 100000 in
set_option maxHeartbeats 8000000 in
theorem implShelve (a : Option Addr) (c n : Nat) (l : List ByteArray) (w : World) (hn : l.length = n) (h : SA w a l) (hm : n ≤ maxLen) (hx : ∀ x ∈ l, x.size ≤ maxLen) (hk : ArrU w 0 keys) (h0 : 0 < w.heap.size) :
    Calls Tryd.prog 28 #[.agg #[.slice a n c]] w fun r w' => ShP l w r w' ∧ Below w.heap.size w w' := by
  unfold maxLen at hm
  have HN := hidP hn
  have HX := hidP hx
  have hC1 : ∀ w0 (x0 : ByteArray) (d : ByteArray), (ArrU w0 0 keys ∧ 0 < w0.heap.size) → (x0.size ≤ maxLen) → (digA x0 = d) → Calls Tryd.prog 43 #[.string x0] w0 fun r w' => r = .returned (.string d) ∧ Below w0.heap.size w0 w' := fun w0 x0 d n0 n1 n2 => by rw [← n2]; exact digestI_any x0 w0 n1 n0.1 n0.2
  have hC2 : ∀ w0 (d : ByteArray), (d.size = 32) → Calls Tryd.prog 45 #[.string d] w0 fun r w' => r = .returned (.agg (kyv d).toArray) ∧ Below w0.heap.size w0 w' := fun w0 d n0 => keyOfI d w0 n0
  have HS0 : Hid (Sta [] w [] [⟨fun k => k < w.heap.size, fun w' => SA w' a l ∧ ArrU w' 0 keys ∧ 0 < w'.heap.size⟩] w) := Sta.arg (fun w' => SA w' a l ∧ ArrU w' 0 keys ∧ 0 < w'.heap.size) (fun w' hb => ⟨h.below hb, hk.below hb h0, Nat.lt_of_lt_of_le h0 hb.size⟩)
  clear hn h hx hk h0
  go_enter Tryd.func28, Tryd.ntmps28
  by_cases h5 : 60 < n
  · as_aux_lemma =>
    have d5 : decide ((60 : Int) < (n : Int)) = true := decide_eq_true (by omega)
    have HF := hidP (StOk.not_long HN.out h5)
    go_wp2_with (first
      | ((with_reducible refine wpList_boxV (w := w) (by with_unfolding_all rfl) 27 (.tmp 0) (by with_unfolding_all rfl) [.slice a n c] (by with_unfolding_all rfl) ?_); intro w1 hA1 hB1 hS1; clear hS1; have HS1 := Sta.new HS0 hA1 hB1 (by simp); clear hA1 hB1; have cHS1_0_0 : w1.cell? ⟨w.heap.size, 0, none⟩ = some (.slice a n c) := Sta.c (i := 0) HS1 rfl rfl))
    go_ret2
    exact ⟨Or.inr ⟨HF.out, rfl⟩, Sta.fin HS1⟩
  · have d5 : decide ((60 : Int) < (n : Int)) = false := decide_eq_false (by omega)
    have H5 := hidP h5
    go_wp2_with (first
      | ((with_reducible refine wpList_boxV (w := w) (by with_unfolding_all rfl) 27 (.tmp 0) (by with_unfolding_all rfl) [.slice a n c] (by with_unfolding_all rfl) ?_); intro w2 hA2 hB2 hS2; clear hS2; have HS2 := Sta.new HS0 hA2 hB2 (by simp); clear hA2 hB2; have cHS2_0_0 : w2.cell? ⟨w.heap.size, 0, none⟩ = some (.slice a n c) := Sta.c (i := 0) HS2 rfl rfl)
      | ((first | (with_reducible refine wpList_makeMapK (w := w2) (by with_unfolding_all rfl) 51 (by with_unfolding_all rfl) ?_) | (with_reducible refine upon_makeMapK (w := w2) 51 ?_)); intro B3 w3 hE3 hL3 hB3 hM3; have HMB3 := hidP (Nat.le_trans (Sta.size HS2) (Nat.le_of_eq hE3)); have HS3 := Sta.map0 HS2 hE3 hL3 hB3 hM3; clear hE3 hL3 hB3 hM3; clear cHS2_0_0; have cHS3_0_0 : w3.cell? ⟨w.heap.size, 0, none⟩ = some (.slice a n c) := Sta.c (i := 0) HS3 rfl rfl))
    clear cHS3_0_0
    go_loopw [17, 5] (fun v0 v1 wr => ∃ (k : Nat) (A : ByteArray), v0 = .int .i64 (k : Int) ∧ v1 = .string A ∧ k ≤ n ∧ Hid (PreOk l k) ∧ Hid (AhdOk l k A) ∧ Hid (Sta [] w [(w.heap.size, [.slice a n c])] [⟨fun k => k = B3, fun w' => MapK w' B3 (l.take k)⟩, ⟨fun k => k < w.heap.size, fun w' => SA w' a l ∧ ArrU w' 0 keys ∧ 0 < w'.heap.size⟩] wr)) (fun v0 v1 _ => n - (intOf v0).toNat)
    case atStart => exact ⟨0, ⟨#[]⟩, rfl, rfl, Nat.zero_le _, PreOk.zero l, AhdOk.zero l, HS3⟩
    case round =>
      rename Go.World => wl4
      clear HS3
      obtain ⟨k, A, rfl, rfl, hk4, HP, HA, HS4⟩ := hrel
      by_cases hlt4 : k < n
      case neg =>
        obtain rfl : n = k := by omega
        have HF := hidP (StOk.all HP.out HN.out H5.out)
        go_wp2_with fail
        go_ret2
        exact ⟨Or.inl ⟨HF.out, B3, rfl, (Sta.made_of (i := 0) HS4 rfl (fun k hk => by rw [show k = B3 from hk]; exact HMB3.out)).imp (fun w2 h2 => by have h3 : MapK w2 B3 (l.take n) := h2; rw [List.take_of_length_le (Nat.le_of_eq HN.out)] at h3; exact h3)⟩, Sta.fin HS4⟩
      have lk4 : (k : Int) < n := by omega
      have l04 : (0 : Int) ≤ k := by omega
      have hkl : k < l.length := by have := HN.out; omega
      obtain ⟨b, o, rfl, hz5⟩ := (Sta.t (i := 1) HS4 rfl :).1 k hkl
      clear hz5
      obtain ⟨x0, hx0⟩ : ∃ y, l[k] = y := ⟨_, rfl⟩
      have HS6 := Sta.imp 1 (fun w' => (SA w' (some ⟨b, o, none⟩) l ∧ ArrU w' 0 keys ∧ 0 < w'.heap.size) ∧ w'.cell? ⟨b, o + k, none⟩ = some (.string x0)) HS4 rfl (fun w' h => ⟨h, by rw [← hx0]; exact (SA.here h.1 k hkl)⟩)
      have W0 : Hid (x0.size ≤ maxLen) := by have := HX.out l[k] (List.getElem_mem hkl); rw [hx0] at this; exact this
      by_cases h6 : 3000 < x0.size
      · as_aux_lemma =>
        have d6 : decide ((3000 : Int) < (x0.size : Int)) = true := decide_eq_true (by omega)
        have HF := hidP (StOk.not_big hkl hx0 h6)
        have tcHS6_1_0 : wl4.cell? ⟨b, o + k, none⟩ = some (.string x0) := (Sta.t (i := 1) HS6 rfl :).2
        go_wp2_with fail
        go_ret2
        exact ⟨Or.inr ⟨HF.out, rfl⟩, Sta.fin HS6⟩
      · have d6 : decide ((3000 : Int) < (x0.size : Int)) = false := decide_eq_false (by omega)
        have H6 := hidP h6
        obtain ⟨d, hd⟩ : ∃ d, digA x0 = d := ⟨_, rfl⟩
        have HD := hidP hd
        have HD32 : Hid (d.size = 32) := by rw [← hd]; exact digA_32 (by omega)
        clear hd h6
        cases hlt2 : nmLt A d
        · as_aux_lemma =>
          have d7 : (Op.bytesLess d.toList A.toList || d.toList == A.toList) = true := by rw [leq_not]; unfold nmLt at hlt2; rw [hlt2]; rfl
          have h0k : 0 < k := by
            rcases Nat.eq_zero_or_pos k with e | e
            · rw [HA.out.1 e, nmLt_nil (by have := HD32.out; omega)] at hlt2; cases hlt2
            · exact e
          have HF := hidP (StOk.not_rise hkl hx0 HD.out HA.out h0k hlt2)
          have tcHS6_1_0 : wl4.cell? ⟨b, o + k, none⟩ = some (.string x0) := (Sta.t (i := 1) HS6 rfl :).2
          go_wp2_with (first
            | (go_at_call 43; have n7_0 : ArrU wl4 0 keys ∧ 0 < wl4.heap.size := (Sta.t (i := 1) HS6 rfl :).1.2; (with_reducible refine (hC1 wl4 x0 d n7_0 W0.out HD.out).mono ?_); rintro r w7 ⟨rfl, hB7⟩; have HS7 := Sta.call HS6 hB7; clear hB7; clear tcHS6_1_0))
          go_ret2
          exact ⟨Or.inr ⟨HF.out, rfl⟩, Sta.fin HS7⟩
        · as_aux_lemma =>
          have d7 : (Op.bytesLess d.toList A.toList || d.toList == A.toList) = false := by rw [leq_not]; unfold nmLt at hlt2; rw [hlt2]; rfl
          have HP2 := hidP (PreOk.step HP.out HA.out hkl hx0 HD.out (by have := H6.out; omega) (Or.inr hlt2))
          have HA2 := hidP (AhdOk.step hkl hx0 HD.out)
          have tcHS6_1_0 : wl4.cell? ⟨b, o + k, none⟩ = some (.string x0) := (Sta.t (i := 1) HS6 rfl :).2
          go_wp2_with (first
            | (go_at_call 43; have n8_0 : ArrU wl4 0 keys ∧ 0 < wl4.heap.size := (Sta.t (i := 1) HS6 rfl :).1.2; (with_reducible refine (hC1 wl4 x0 d n8_0 W0.out HD.out).mono ?_); rintro r w8 ⟨rfl, hB8⟩; have HS8 := Sta.call HS6 hB8; clear hB8; clear tcHS6_1_0)
            | (go_at_call 45; (with_reducible refine (hC2 w8 d HD32.out).mono ?_); rintro r w9 ⟨rfl, hB9⟩; have HS9 := Sta.call HS8 hB9; clear hB9)
            | ((with_reducible refine wpList_putK (w := w9) (by with_unfolding_all rfl) (.tmp 29) (.tmp 31) (.tmp 33) (by with_unfolding_all rfl) B3 (l.take k) d x0 (by with_unfolding_all rfl) (by with_unfolding_all rfl) (by with_unfolding_all rfl) (Sta.t (i := 0) HS9 rfl) HD.out HD32.out (by have := HN.out; have := H5.out; rw [List.length_take]; unfold maxLen; omega) ?_); intro w10 hM10 hG10; have HS10 := Sta.upd 0 HS9 rfl HMB3.out hM10 hG10; clear hM10 hG10))
          have HS11 := Sta.imp 1 (fun w' => SA w' (some ⟨b, o, none⟩) l ∧ ArrU w' 0 keys ∧ 0 < w'.heap.size) HS10 rfl (fun w' h => h.1)
          have HS12 := Sta.imp 0 (fun w' => MapK w' B3 (l.take (k + 1))) HS11 rfl (fun w' h => h.snoc hkl hx0)
          go_roundw
          case rel => exact ⟨k + 1, d, by go_num, by go_num, hlt4, HP2, HA2, HS12⟩
          case measure => simp [intOf]; omega
end Go.Proofs.YtchfpiadfmnphaaDoor
namespace Go.Proofs.YtchfpiadfmnphaaDoor
open Go.RowKit
set_option linter.unusedVariables false

theorem implShelve_yes (a : Option Addr) (c n : Nat) (l : List ByteArray) (w : World) (hn : l.length = n) (h : SA w a l) (hm : n ≤ maxLen) (hx : ∀ x ∈ l, x.size ≤ maxLen) (hk : ArrU w 0 keys) (h0 : 0 < w.heap.size) (hs : StOk l) :
    Calls Tryd.prog 28 #[.agg #[.slice a n c]] w fun r w' => ∃ B, r = .returned (.tuple #[.map (some B), .bool true]) ∧ Made w w' (fun w2 => MapK w2 B l) ∧ Below w.heap.size w w' :=
  (implShelve a c n l w hn h hm hx hk h0).mono fun r w' ⟨h1, h2⟩ => h1.elim (fun ⟨_, B, h3, h4⟩ => ⟨B, h3, h4, h2⟩) (fun h3 => absurd hs h3.1)
theorem implShelve_no (a : Option Addr) (c n : Nat) (l : List ByteArray) (w : World) (hn : l.length = n) (h : SA w a l) (hm : n ≤ maxLen) (hx : ∀ x ∈ l, x.size ≤ maxLen) (hk : ArrU w 0 keys) (h0 : 0 < w.heap.size) (hs : ¬ StOk l) :
    Calls Tryd.prog 28 #[.agg #[.slice a n c]] w fun r w' => r = .returned (.tuple #[.map none, .bool false]) ∧ Below w.heap.size w w' :=
  (implShelve a c n l w hn h hm hx hk h0).mono fun r w' ⟨h1, h2⟩ => h1.elim (fun h3 => absurd h3.1 hs) (fun h3 => ⟨h3.2, h2⟩)
set_option maxRecDepth 100000 in
set_option maxHeartbeats 4000000 in
theorem implStRight (a : Option Addr) (c n : Nat) (l : List ByteArray) (w : World) (hn : l.length = n) (h : SA w a l) (hm : n ≤ maxLen) (hx : ∀ x ∈ l, x.size ≤ maxLen) (hk : ArrU w 0 keys) (h0 : 0 < w.heap.size) :
    Calls Tryd.prog 10 #[.agg #[.slice a n c]] w fun r w' => r = .returned (.bool (boolP (StOk l))) ∧ Below w.heap.size w w' := by
  have HX := hidP hx
  have HM := hidP hm
  have HN := hidP hn
  have hC1 : ∀ w0, (SA w0 a l ∧ ArrU w0 0 keys ∧ 0 < w0.heap.size) → (l.length = n) → (n ≤ maxLen) → (∀ x ∈ l, x.size ≤ maxLen) → (StOk l) → Calls Tryd.prog 28 #[.agg #[.slice a n c]] w0 fun r w' => ∃ (B : Nat), r = .returned (.tuple #[.map (some B), .bool true]) ∧ Below w0.heap.size w0 w' := fun w0 n0 n1 n2 n3 n4 => (implShelve_yes a c n l w0 n1 n0.1 n2 n3 n0.2.1 n0.2.2 n4).mono fun r w' ⟨B, h1, h2, h3⟩ => ⟨B, h1, h3⟩
  have hC2 : ∀ w0, (SA w0 a l ∧ ArrU w0 0 keys ∧ 0 < w0.heap.size) → (l.length = n) → (n ≤ maxLen) → (∀ x ∈ l, x.size ≤ maxLen) → (¬ StOk l) → Calls Tryd.prog 28 #[.agg #[.slice a n c]] w0 fun r w' => r = .returned (.tuple #[.map none, .bool false]) ∧ Below w0.heap.size w0 w' := fun w0 n0 n1 n2 n3 n4 => implShelve_no a c n l w0 n1 n0.1 n2 n3 n0.2.1 n0.2.2 n4
  have HS0 : Hid (Sta [] w [] [⟨fun k => k < w.heap.size, fun w' => SA w' a l ∧ ArrU w' 0 keys ∧ 0 < w'.heap.size⟩] w) := Sta.arg (fun w' => SA w' a l ∧ ArrU w' 0 keys ∧ 0 < w'.heap.size) (fun w' hb => ⟨h.below hb, hk.below hb h0, Nat.lt_of_lt_of_le h0 hb.size⟩)
  clear h hx hk h0 hm hn
  go_enter Tryd.func10, Tryd.ntmps10
  by_cases hf : StOk l
  · as_aux_lemma =>
    have HF := hidP hf
    clear hf
    go_wp2_with (first
      | ((with_reducible refine wpList_boxV (w := w) (by with_unfolding_all rfl) 27 (.tmp 0) (by with_unfolding_all rfl) [.slice a n c] (by with_unfolding_all rfl) ?_); intro w1 hA1 hB1 hS1; clear hS1; have HS1 := Sta.new HS0 hA1 hB1 (by simp); clear hA1 hB1)
      | ((with_reducible refine wpList_loadV (w := w1) (by with_unfolding_all rfl) 27 (.tmp 1) (by with_unfolding_all rfl) w.heap.size [.slice a n c] (by with_unfolding_all rfl) (Sta.r (i := 0) HS1 (by with_unfolding_all rfl)) Tryd.uT_implStore 1 Tryd.sT_implStore (by with_unfolding_all rfl) ?_))
      | (go_at_call 28; have n2_0 : SA w1 a l ∧ ArrU w1 0 keys ∧ 0 < w1.heap.size := (Sta.t (i := 0) HS1 rfl :); (with_reducible refine (hC1 w1 n2_0 HN.out HM.out HX.out HF.out).mono ?_); rintro r w2 ⟨B, rfl, hB2⟩; have HS2 := Sta.call HS1 hB2; clear hB2))
    go_ret
    exact ⟨congrArg (fun b => Ending.returned (Value.bool b)) (boolP_yes HF.out).symm, Sta.fin HS2⟩
  · as_aux_lemma =>
    have HF := hidP hf
    clear hf
    go_wp2_with (first
      | ((with_reducible refine wpList_boxV (w := w) (by with_unfolding_all rfl) 27 (.tmp 0) (by with_unfolding_all rfl) [.slice a n c] (by with_unfolding_all rfl) ?_); intro w3 hA3 hB3 hS3; clear hS3; have HS3 := Sta.new HS0 hA3 hB3 (by simp); clear hA3 hB3)
      | ((with_reducible refine wpList_loadV (w := w3) (by with_unfolding_all rfl) 27 (.tmp 1) (by with_unfolding_all rfl) w.heap.size [.slice a n c] (by with_unfolding_all rfl) (Sta.r (i := 0) HS3 (by with_unfolding_all rfl)) Tryd.uT_implStore 1 Tryd.sT_implStore (by with_unfolding_all rfl) ?_))
      | (go_at_call 28; have n4_0 : SA w3 a l ∧ ArrU w3 0 keys ∧ 0 < w3.heap.size := (Sta.t (i := 0) HS3 rfl :); (with_reducible refine (hC2 w3 n4_0 HN.out HM.out HX.out HF.out).mono ?_); rintro r w4 ⟨rfl, hB4⟩; have HS4 := Sta.call HS3 hB4; clear hB4))
    go_ret
    exact ⟨congrArg (fun b => Ending.returned (Value.bool b)) (boolP_no HF.out).symm, Sta.fin HS4⟩
end Go.Proofs.YtchfpiadfmnphaaDoor
namespace Go.Proofs.YtchfpiadfmnphaaDoor
open Go.RowKit
set_option linter.unusedVariables false

set_option maxRecDepth 100000 in
set_option maxHeartbeats 8000000 in
theorem specStRight (a : Option Addr) (c n : Nat) (l : List ByteArray) (w : World) (hn : l.length = n) (h : SA w a l) (hm : n ≤ maxLen) (hx : ∀ x ∈ l, x.size ≤ maxLen) :
    Calls Tryd.prog 8 #[.agg #[.slice a n c]] w fun r w' => r = .returned (.bool (boolP (StOk l))) ∧ Below w.heap.size w w' := by
  unfold maxLen at hm
  have HN := hidP hn
  have HX := hidP hx
  have hC1 : ∀ w0 (x0 : ByteArray) (d : ByteArray), (x0.size ≤ maxLen) → (digA x0 = d) → Calls Tryd.prog 26 #[.string x0] w0 fun r w' => r = .returned (.string d) ∧ Below w0.heap.size w0 w' := fun w0 x0 d n0 n1 => by rw [← n1]; exact digestS_any x0 w0 n0
  have HS0 : Hid (Sta [] w [] [⟨fun k => k < w.heap.size, fun w' => SA w' a l⟩] w) := Sta.arg (fun w' => SA w' a l) (fun w' hb => h.below hb)
  clear hn h hx
  go_enter Tryd.func8, Tryd.ntmps8
  by_cases h5 : 60 < n
  · as_aux_lemma =>
    have d5 : decide ((60 : Int) < (n : Int)) = true := decide_eq_true (by omega)
    have HF := hidP (StOk.not_long HN.out h5)
    go_wp2_with (first
      | ((with_reducible refine wpList_boxV (w := w) (by with_unfolding_all rfl) 27 (.tmp 0) (by with_unfolding_all rfl) [.slice a n c] (by with_unfolding_all rfl) ?_); intro w1 hA1 hB1 hS1; clear hS1; have HS1 := Sta.new HS0 hA1 hB1 (by simp); clear hA1 hB1; have cHS1_0_0 : w1.cell? ⟨w.heap.size, 0, none⟩ = some (.slice a n c) := Sta.c (i := 0) HS1 rfl rfl))
    go_ret
    exact ⟨congrArg (fun b => Ending.returned (Value.bool b)) (boolP_no HF.out).symm, Sta.fin HS1⟩
  · have d5 : decide ((60 : Int) < (n : Int)) = false := decide_eq_false (by omega)
    have H5 := hidP h5
    go_wp2_with (first
      | ((with_reducible refine wpList_boxV (w := w) (by with_unfolding_all rfl) 27 (.tmp 0) (by with_unfolding_all rfl) [.slice a n c] (by with_unfolding_all rfl) ?_); intro w2 hA2 hB2 hS2; clear hS2; have HS2 := Sta.new HS0 hA2 hB2 (by simp); clear hA2 hB2; have cHS2_0_0 : w2.cell? ⟨w.heap.size, 0, none⟩ = some (.slice a n c) := Sta.c (i := 0) HS2 rfl rfl))
    clear cHS2_0_0
    go_loopw [4, 3] (fun v0 v1 wr => ∃ (k : Nat) (A : ByteArray), v0 = .int .i64 (k : Int) ∧ v1 = .string A ∧ k ≤ n ∧ Hid (PreOk l k) ∧ Hid (AhdOk l k A) ∧ Hid (Sta [] w [(w.heap.size, [.slice a n c])] [⟨fun k => k < w.heap.size, fun w' => SA w' a l⟩] wr)) (fun v0 v1 _ => n - (intOf v0).toNat)
    case atStart => exact ⟨0, ⟨#[]⟩, rfl, rfl, Nat.zero_le _, PreOk.zero l, AhdOk.zero l, HS2⟩
    case round =>
      rename Go.World => wl3
      clear HS2
      obtain ⟨k, A, rfl, rfl, hk3, HP, HA, HS3⟩ := hrel
      by_cases hlt3 : k < n
      case neg =>
        obtain rfl : n = k := by omega
        have HF := hidP (StOk.all HP.out HN.out H5.out)
        have cHS3_0_0 : wl3.cell? ⟨w.heap.size, 0, none⟩ = some (.slice a n c) := Sta.c (i := 0) HS3 rfl rfl
        go_wp2_with fail
        go_ret
        exact ⟨congrArg (fun b => Ending.returned (Value.bool b)) (boolP_yes HF.out).symm, Sta.fin HS3⟩
      have lk3 : (k : Int) < n := by omega
      have l03 : (0 : Int) ≤ k := by omega
      have hkl : k < l.length := by have := HN.out; omega
      obtain ⟨b, o, rfl, hz4⟩ := (Sta.t (i := 0) HS3 rfl :) k hkl
      clear hz4
      obtain ⟨x0, hx0⟩ : ∃ y, l[k] = y := ⟨_, rfl⟩
      have HS5 := Sta.imp 0 (fun w' => (SA w' (some ⟨b, o, none⟩) l) ∧ w'.cell? ⟨b, o + k, none⟩ = some (.string x0)) HS3 rfl (fun w' h => ⟨h, by rw [← hx0]; exact (SA.here h k hkl)⟩)
      have W0 : Hid (x0.size ≤ maxLen) := by have := HX.out l[k] (List.getElem_mem hkl); rw [hx0] at this; exact this
      by_cases h6 : 3000 < x0.size
      · as_aux_lemma =>
        have d6 : decide ((3000 : Int) < (x0.size : Int)) = true := decide_eq_true (by omega)
        have HF := hidP (StOk.not_big hkl hx0 h6)
        have cHS5_0_0 : wl3.cell? ⟨w.heap.size, 0, none⟩ = some (.slice (some ⟨b, o, none⟩) n c) := Sta.c (i := 0) HS5 rfl rfl
        have tcHS5_0_0 : wl3.cell? ⟨b, o + k, none⟩ = some (.string x0) := (Sta.t (i := 0) HS5 rfl :).2
        go_wp2_with fail
        go_ret
        exact ⟨congrArg (fun b => Ending.returned (Value.bool b)) (boolP_no HF.out).symm, Sta.fin HS5⟩
      · have d6 : decide ((3000 : Int) < (x0.size : Int)) = false := decide_eq_false (by omega)
        have H6 := hidP h6
        obtain ⟨d, hd⟩ : ∃ d, digA x0 = d := ⟨_, rfl⟩
        have HD := hidP hd
        have HD32 : Hid (d.size = 32) := by rw [← hd]; exact digA_32 (by omega)
        clear hd h6
        have hb3 : k = 0 ∨ (0 < k ∧ nmLt A d = true) ∨ (0 < k ∧ nmLt A d = false) := by cases nmLt A d <;> simp <;> omega
        rcases hb3 with hk0 | ⟨hk0, hlt2⟩ | ⟨hk0, hlt2⟩
        · as_aux_lemma =>
          have d5b : decide ((0 : Int) < (k : Int)) = false := decide_eq_false (by omega)
          have HP2 := hidP (PreOk.step HP.out HA.out hkl hx0 HD.out (by have := H6.out; omega) (Or.inl hk0))
          have HA2 := hidP (AhdOk.step hkl hx0 HD.out)
          have hkn : ¬ (0 < k) := by omega
          clear hk0
          have cHS5_0_0 : wl3.cell? ⟨w.heap.size, 0, none⟩ = some (.slice (some ⟨b, o, none⟩) n c) := Sta.c (i := 0) HS5 rfl rfl
          have tcHS5_0_0 : wl3.cell? ⟨b, o + k, none⟩ = some (.string x0) := (Sta.t (i := 0) HS5 rfl :).2
          go_wp2_with (first
            | (go_at_call 26; (with_reducible refine (hC1 wl3 x0 d W0.out HD.out).mono ?_); rintro r w6 ⟨rfl, hB6⟩; have HS6 := Sta.call HS5 hB6; clear hB6; clear cHS5_0_0 tcHS5_0_0))
          have HS7 := Sta.imp 0 (fun w' => SA w' (some ⟨b, o, none⟩) l) HS6 rfl (fun w' h => h.1)
          go_roundw
          case rel => exact ⟨k + 1, d, by go_num, by go_num, hlt3, HP2, HA2, HS7⟩
          case measure => simp [intOf]; omega
        · as_aux_lemma =>
          have d5b : decide ((0 : Int) < (k : Int)) = true := decide_eq_true (by omega)
          have d7 : Op.bytesLess A.toList d.toList = true := hlt2
          have HP2 := hidP (PreOk.step HP.out HA.out hkl hx0 HD.out (by have := H6.out; omega) (Or.inr hlt2))
          have HA2 := hidP (AhdOk.step hkl hx0 HD.out)
          have cHS5_0_0 : wl3.cell? ⟨w.heap.size, 0, none⟩ = some (.slice (some ⟨b, o, none⟩) n c) := Sta.c (i := 0) HS5 rfl rfl
          have tcHS5_0_0 : wl3.cell? ⟨b, o + k, none⟩ = some (.string x0) := (Sta.t (i := 0) HS5 rfl :).2
          go_wp2_with (first
            | (go_at_call 26; (with_reducible refine (hC1 wl3 x0 d W0.out HD.out).mono ?_); rintro r w8 ⟨rfl, hB8⟩; have HS8 := Sta.call HS5 hB8; clear hB8; clear cHS5_0_0 tcHS5_0_0))
          have HS9 := Sta.imp 0 (fun w' => SA w' (some ⟨b, o, none⟩) l) HS8 rfl (fun w' h => h.1)
          go_roundw
          case rel => exact ⟨k + 1, d, by go_num, by go_num, hlt3, HP2, HA2, HS9⟩
          case measure => simp [intOf]; omega
        · as_aux_lemma =>
          have d5b : decide ((0 : Int) < (k : Int)) = true := decide_eq_true (by omega)
          have d7 : Op.bytesLess A.toList d.toList = false := hlt2
          have HF := hidP (StOk.not_rise hkl hx0 HD.out HA.out hk0 hlt2)
          have cHS5_0_0 : wl3.cell? ⟨w.heap.size, 0, none⟩ = some (.slice (some ⟨b, o, none⟩) n c) := Sta.c (i := 0) HS5 rfl rfl
          have tcHS5_0_0 : wl3.cell? ⟨b, o + k, none⟩ = some (.string x0) := (Sta.t (i := 0) HS5 rfl :).2
          go_wp2_with (first
            | (go_at_call 26; (with_reducible refine (hC1 wl3 x0 d W0.out HD.out).mono ?_); rintro r w10 ⟨rfl, hB10⟩; have HS10 := Sta.call HS5 hB10; clear hB10; clear cHS5_0_0 tcHS5_0_0))
          go_ret
          exact ⟨congrArg (fun b => Ending.returned (Value.bool b)) (boolP_no HF.out).symm, Sta.fin HS10⟩
end Go.Proofs.YtchfpiadfmnphaaDoor
namespace Go.Proofs.YtchfpiadfmnphaaDoor
open Go.RowKit
set_option linter.unusedVariables false

set_option maxRecDepth 100000 in
set_option maxHeartbeats 8000000 in
theorem specFind (a : Option Addr) (c n : Nat) (l : List ByteArray) (t : ByteArray) (w : World) (hn : l.length = n) (h : SA w a l) (hm : n ≤ maxLen) (hx : ∀ x ∈ l, x.size ≤ maxLen) (ht : t.size ≤ maxLen) :
    Calls Tryd.prog 30 #[.agg #[.slice a n c], .string t] w fun r w' => r = .returned (getV (findO l t)) ∧ Below w.heap.size w w' := by
  have HM := hidP hm
  unfold maxLen at hm
  have HN := hidP hn
  have HX := hidP hx
  have HT := hidP ht
  unfold maxLen at ht
  have hC1 : ∀ w0 (x0 : ByteArray) (d : ByteArray), (x0.size ≤ maxLen) → (digA x0 = d) → Calls Tryd.prog 26 #[.string x0] w0 fun r w' => r = .returned (.string d) ∧ Below w0.heap.size w0 w' := fun w0 x0 d n0 n1 => by rw [← n1]; exact digestS_any x0 w0 n0
  have HS0 : Hid (Sta [] w [] [⟨fun k => k < w.heap.size, fun w' => SA w' a l⟩] w) := Sta.arg (fun w' => SA w' a l) (fun w' hb => h.below hb)
  clear hn h hx
  go_enter Tryd.func30, Tryd.ntmps30
  go_wp2_with (first
    | ((with_reducible refine wpList_boxV (w := w) (by with_unfolding_all rfl) 27 (.tmp 0) (by with_unfolding_all rfl) [.slice a n c] (by with_unfolding_all rfl) ?_); intro w1 hA1 hB1 hS1; clear hS1; have HS1 := Sta.new HS0 hA1 hB1 (by simp); clear hA1 hB1))
  go_loopw [6] (fun v0 wr => ∃ (k : Nat), v0 = .int .i64 (k : Int) ∧ k ≤ n ∧ Hid (findO (l.take k) t = none) ∧ Hid (Sta [] w [(w.heap.size, [.slice a n c])] [⟨fun k => k < w.heap.size, fun w' => SA w' a l⟩] wr)) (fun v0 _ => n - (intOf v0).toNat)
  case atStart => exact ⟨0, rfl, Nat.zero_le _, rfl, HS1⟩
  case round =>
    rename Go.World => wl2
    clear HS1
    obtain ⟨k, rfl, hk2, HNo, HS2⟩ := hrel
    by_cases hlt2 : k < n
    case neg =>
      obtain rfl : n = k := by omega
      have HF := hidP (findO_all HNo.out HN.out)
      have cHS2_0_0 : wl2.cell? ⟨w.heap.size, 0, none⟩ = some (.slice a n c) := Sta.c (i := 0) HS2 rfl rfl
      go_wp2_with fail
      go_ret2
      exact ⟨by rw [HF.out]; rfl, Sta.fin HS2⟩
    have lk2 : (k : Int) < n := by omega
    have l02 : (0 : Int) ≤ k := by omega
    have hkl : k < l.length := by have := HN.out; omega
    obtain ⟨b, o, rfl, hz3⟩ := (Sta.t (i := 0) HS2 rfl :) k hkl
    clear hz3
    obtain ⟨x0, hx0⟩ : ∃ y, l[k] = y := ⟨_, rfl⟩
    have HS4 := Sta.imp 0 (fun w' => (SA w' (some ⟨b, o, none⟩) l) ∧ w'.cell? ⟨b, o + k, none⟩ = some (.string x0)) HS2 rfl (fun w' h => ⟨h, by rw [← hx0]; exact (SA.here h k hkl)⟩)
    have W0 : Hid (x0.size ≤ maxLen) := by have := HX.out l[k] (List.getElem_mem hkl); rw [hx0] at this; exact this
    obtain ⟨d, hd⟩ : ∃ d, digA x0 = d := ⟨_, rfl⟩
    have HD := hidP hd
    clear hd
    by_cases he : d = t
    · as_aux_lemma =>
      have HF := hidP (findO_hit hkl hx0 HNo.out (HD.out.trans he))
      subst he
      have hq := txt_eq d
      have cHS4_0_0 : wl2.cell? ⟨w.heap.size, 0, none⟩ = some (.slice (some ⟨b, o, none⟩) n c) := Sta.c (i := 0) HS4 rfl rfl
      have tcHS4_0_0 : wl2.cell? ⟨b, o + k, none⟩ = some (.string x0) := (Sta.t (i := 0) HS4 rfl :).2
      go_wp2_with (first
        | (go_at_call 26; (with_reducible refine (hC1 wl2 x0 d W0.out HD.out).mono ?_); rintro r w5 ⟨rfl, hB5⟩; have HS5 := Sta.call HS4 hB5; clear hB5; clear cHS4_0_0 tcHS4_0_0; have cHS5_0_0 : w5.cell? ⟨w.heap.size, 0, none⟩ = some (.slice (some ⟨b, o, none⟩) n c) := Sta.c (i := 0) HS5 rfl rfl; have tcHS5_0_0 : w5.cell? ⟨b, o + k, none⟩ = some (.string x0) := (Sta.t (i := 0) HS5 rfl :).2))
      go_ret2
      exact ⟨by rw [HF.out]; rfl, Sta.fin HS5⟩
    · as_aux_lemma =>
      have HNo2 := hidP (findO_step hkl hx0 HNo.out (fun q => he (HD.out.symm.trans q)))
      have hq := txt_ne he
      have cHS4_0_0 : wl2.cell? ⟨w.heap.size, 0, none⟩ = some (.slice (some ⟨b, o, none⟩) n c) := Sta.c (i := 0) HS4 rfl rfl
      have tcHS4_0_0 : wl2.cell? ⟨b, o + k, none⟩ = some (.string x0) := (Sta.t (i := 0) HS4 rfl :).2
      go_wp2_with (first
        | (go_at_call 26; (with_reducible refine (hC1 wl2 x0 d W0.out HD.out).mono ?_); rintro r w6 ⟨rfl, hB6⟩; have HS6 := Sta.call HS4 hB6; clear hB6; clear cHS4_0_0 tcHS4_0_0))
      have HS7 := Sta.imp 0 (fun w' => SA w' (some ⟨b, o, none⟩) l) HS6 rfl (fun w' h => h.1)
      go_roundw
      case rel => exact ⟨k + 1, by go_num, hlt2, HNo2, HS7⟩
      case measure => simp [intOf]; omega
set_option maxRecDepth 100000 in
set_option maxHeartbeats 8000000 in
theorem implGet (B : Nat) (l : List ByteArray) (t : ByteArray) (w : World) (hM : MapK w B l) (hS : StOk l) (ht : t.size ≤ maxLen) :
    Calls Tryd.prog 44 #[.map (some B), .string t] w fun r w' => r = .returned (getV (findO l t)) ∧ Below w.heap.size w w' := by
  have HS9 := hidP hS
  have HT := hidP ht
  have hC1 : ∀ w0, (t.size ≤ maxLen) → (decide (t.size = 32) = false) → Calls Tryd.prog 63 #[.string t] w0 fun r w' => r = .returned (.bool false) ∧ w0 = w' := fun w0 n0 n1 => by rw [← n1]; exact sizedI t w0 n0
  have hC2 : ∀ w0, (t.size ≤ maxLen) → (decide (t.size = 32) = true) → Calls Tryd.prog 63 #[.string t] w0 fun r w' => r = .returned (.bool true) ∧ w0 = w' := fun w0 n0 n1 => by rw [← n1]; exact sizedI t w0 n0
  have hC3 : ∀ w0, (t.size = 32) → Calls Tryd.prog 45 #[.string t] w0 fun r w' => r = .returned (.agg (kyv t).toArray) ∧ Below w0.heap.size w0 w' := fun w0 n0 => keyOfI t w0 n0
  have HS0 : Hid (Sta [] w [] [⟨fun k => k < w.heap.size, fun w' => MapK w' B l⟩] w) := Sta.arg (fun w' => MapK w' B l) (fun w' hb => hM.same (hb.block B hM.lt))
  clear hM hS ht
  go_enter Tryd.func44, Tryd.ntmps44
  have hb3 : (¬ t.size = 32 ∧ findO l t = none) ∨ (t.size = 32 ∧ findO l t = none) ∨ (∃ X, t.size = 32 ∧ findO l t = some X) := by
    cases hf : findO l t with
    | none => by_cases g : t.size = 32 <;> simp [g]
    | some X => exact Or.inr (Or.inr ⟨X, findO_size HS9.out hf, rfl⟩)
  rcases hb3 with ⟨g, hf⟩ | ⟨g, hf⟩ | ⟨X, g, hf⟩
  · as_aux_lemma =>
    have hd : decide (t.size = 32) = false := decide_eq_false g
    have HF := hidP hf
    clear hf
    go_wp2_with (first
      | (go_at_call 63; (with_reducible refine (hC1 w HT.out hd).mono ?_); rintro r w' ⟨rfl, rfl⟩))
    go_ret2
    exact ⟨by rw [HF.out]; rfl, Sta.fin HS0⟩
  · as_aux_lemma =>
    have hd : decide (t.size = 32) = true := decide_eq_true g
    have HF := hidP hf
    have H32 := hidP g
    clear hf g
    go_wp2_with (first
      | (go_at_call 63; (with_reducible refine (hC2 w HT.out hd).mono ?_); rintro r w' ⟨rfl, rfl⟩)
      | (go_at_call 45; (with_reducible refine (hC3 w H32.out).mono ?_); rintro r w3 ⟨rfl, hB3⟩; have HS3 := Sta.call HS0 hB3; clear hB3)
      | ((with_reducible refine wpList_lookK (w := w3) (by with_unfolding_all rfl) (.tmp 12) (.tmp 14) (by with_unfolding_all rfl) B l t (.tuple #[.agg #[.string ⟨#[]⟩], .bool false]) (by with_unfolding_all rfl) (by with_unfolding_all rfl) (Sta.t (i := 0) HS3 rfl) H32.out HS9.out (by rw [HF.out]) ?_))
      | ((with_reducible refine wpList_allocV (w := w3) (by with_unfolding_all rfl) 69 (by with_unfolding_all rfl) [.string ⟨#[]⟩] Tryd.zT_implstored ?_); intro w4 hA4 hB4 hS4; clear hS4; have HS4 := Sta.new HS3 hA4 hB4 (by simp); clear hA4 hB4)
      | ((with_reducible refine wpList_storeS (w := w4) (by with_unfolding_all rfl) 69 (.tmp 6) (.tmp 16) (by with_unfolding_all rfl) w3.heap.size [.string ⟨#[]⟩] [.string ⟨#[]⟩] (by with_unfolding_all rfl) (by with_unfolding_all rfl) (Sta.r (i := 0) HS4 (by with_unfolding_all rfl)) 1 Tryd.sT_implstored (by with_unfolding_all rfl) (by with_unfolding_all rfl) (by with_unfolding_all rfl) ?_); intro w5 hA5 hO5; have HS5 := Sta.put 0 HS4 rfl hA5 (by simp) hO5; clear hA5 hO5; have cHS5_0_0 : w5.cell? ⟨w3.heap.size, 0, none⟩ = some (.string ⟨#[]⟩) := Sta.c (i := 0) HS5 rfl rfl))
    go_ret2
    exact ⟨by rw [HF.out]; rfl, Sta.fin HS5⟩
  · as_aux_lemma =>
    have hd : decide (t.size = 32) = true := decide_eq_true g
    have HF := hidP hf
    have H32 := hidP g
    clear hf g
    go_wp2_with (first
      | (go_at_call 63; (with_reducible refine (hC2 w HT.out hd).mono ?_); rintro r w' ⟨rfl, rfl⟩)
      | (go_at_call 45; (with_reducible refine (hC3 w H32.out).mono ?_); rintro r w7 ⟨rfl, hB7⟩; have HS7 := Sta.call HS0 hB7; clear hB7)
      | ((with_reducible refine wpList_lookK (w := w7) (by with_unfolding_all rfl) (.tmp 12) (.tmp 14) (by with_unfolding_all rfl) B l t (.tuple #[.agg #[.string X], .bool true]) (by with_unfolding_all rfl) (by with_unfolding_all rfl) (Sta.t (i := 0) HS7 rfl) H32.out HS9.out (by rw [HF.out]) ?_))
      | ((with_reducible refine wpList_allocV (w := w7) (by with_unfolding_all rfl) 69 (by with_unfolding_all rfl) [.string ⟨#[]⟩] Tryd.zT_implstored ?_); intro w8 hA8 hB8 hS8; clear hS8; have HS8 := Sta.new HS7 hA8 hB8 (by simp); clear hA8 hB8)
      | ((with_reducible refine wpList_storeS (w := w8) (by with_unfolding_all rfl) 69 (.tmp 6) (.tmp 16) (by with_unfolding_all rfl) w7.heap.size [.string ⟨#[]⟩] [.string X] (by with_unfolding_all rfl) (by with_unfolding_all rfl) (Sta.r (i := 0) HS8 (by with_unfolding_all rfl)) 1 Tryd.sT_implstored (by with_unfolding_all rfl) (by with_unfolding_all rfl) (by with_unfolding_all rfl) ?_); intro w9 hA9 hO9; have HS9 := Sta.put 0 HS8 rfl hA9 (by simp) hO9; clear hA9 hO9; have cHS9_0_0 : w9.cell? ⟨w7.heap.size, 0, none⟩ = some (.string X) := Sta.c (i := 0) HS9 rfl rfl))
    go_ret2
    exact ⟨by rw [HF.out]; rfl, Sta.fin HS9⟩
end Go.Proofs.YtchfpiadfmnphaaDoor
namespace Go.Proofs.YtchfpiadfmnphaaDoor
open Go.RowKit
set_option linter.unusedVariables false

set_option maxRecDepth 100000 in
set_option maxHeartbeats 8000000 in
theorem implFetch (a : Option Addr) (c n : Nat) (l : List ByteArray) (t : ByteArray) (w : World) (hn : l.length = n) (h : SA w a l) (hm : n ≤ maxLen) (hx : ∀ x ∈ l, x.size ≤ maxLen) (hk : ArrU w 0 keys) (h0 : 0 < w.heap.size) (ht : t.size ≤ maxLen) :
    Calls Tryd.prog 31 #[.agg #[.slice a n c], .string t] w fun r w' => ∃ (M : Value), r = .returned (.tuple #[M, .string (getY l t), .int .i64 (getC l t)]) ∧ (getC l t = 0 → StOk l ∧ ∃ B, M = .map (some B) ∧ Made w w' (fun w2 => MapK w2 B l)) ∧ Below w.heap.size w w' := by
  have HM := hidP hm
  unfold maxLen at hm
  have HN := hidP hn
  have HX := hidP hx
  have HT := hidP ht
  unfold maxLen at ht
  have hC1 : ∀ w0, (SA w0 a l ∧ ArrU w0 0 keys ∧ 0 < w0.heap.size) → (l.length = n) → (n ≤ maxLen) → (∀ x ∈ l, x.size ≤ maxLen) → (¬ StOk l) → Calls Tryd.prog 28 #[.agg #[.slice a n c]] w0 fun r w' => r = .returned (.tuple #[.map none, .bool false]) ∧ Below w0.heap.size w0 w' := fun w0 n0 n1 n2 n3 n4 => implShelve_no a c n l w0 n1 n0.1 n2 n3 n0.2.1 n0.2.2 n4
  have hC2 : ∀ w0, (SA w0 a l ∧ ArrU w0 0 keys ∧ 0 < w0.heap.size) → (l.length = n) → (n ≤ maxLen) → (∀ x ∈ l, x.size ≤ maxLen) → (StOk l) → Calls Tryd.prog 28 #[.agg #[.slice a n c]] w0 fun r w' => ∃ (B : Nat), r = .returned (.tuple #[.map (some B), .bool true]) ∧ Made w0 w' (fun w2 => MapK w2 B l) ∧ Below w0.heap.size w0 w' := fun w0 n0 n1 n2 n3 n4 => implShelve_yes a c n l w0 n1 n0.1 n2 n3 n0.2.1 n0.2.2 n4
  have hC3 : ∀ w0 (B : Nat), (MapK w0 B l) → (StOk l) → (t.size ≤ maxLen) → (findO l t = none) → Calls Tryd.prog 44 #[.map (some B), .string t] w0 fun r w' => r = .returned (.tuple #[.string ⟨#[]⟩, .bool false]) ∧ Below w0.heap.size w0 w' := fun w0 B n0 n1 n2 n3 => by have := implGet B l t w0 n0 n1 n2; rw [n3] at this; exact this
  have hC4 : ∀ w0 (X : ByteArray) (B : Nat), (MapK w0 B l) → (StOk l) → (t.size ≤ maxLen) → (findO l t = some X) → Calls Tryd.prog 44 #[.map (some B), .string t] w0 fun r w' => r = .returned (.tuple #[.string X, .bool true]) ∧ Below w0.heap.size w0 w' := fun w0 X B n0 n1 n2 n3 => by have := implGet B l t w0 n0 n1 n2; rw [n3] at this; exact this
  have HS0 : Hid (Sta [] w [] [⟨fun k => k < w.heap.size, fun w' => SA w' a l ∧ ArrU w' 0 keys ∧ 0 < w'.heap.size⟩] w) := Sta.arg (fun w' => SA w' a l ∧ ArrU w' 0 keys ∧ 0 < w'.heap.size) (fun w' hb => ⟨h.below hb, hk.below hb h0, Nat.lt_of_lt_of_le h0 hb.size⟩)
  clear hn h hx hk h0
  go_enter Tryd.func31, Tryd.ntmps31
  rcases get_cases l t with ⟨g, hc, hy⟩ | ⟨g, hs, hc, hy⟩ | ⟨g, hs, hf, hc, hy⟩ | ⟨X, g, hs, hf, hc, hy⟩
  · as_aux_lemma =>
    have d5 : decide ((20000 : Int) < (t.size : Int)) = true := decide_eq_true (by omega)
    have HC := hidP hc
    have HY := hidP hy
    clear hc hy
    go_wp2_with (first
      | ((with_reducible refine wpList_boxV (w := w) (by with_unfolding_all rfl) 27 (.tmp 0) (by with_unfolding_all rfl) [.slice a n c] (by with_unfolding_all rfl) ?_); intro w1 hA1 hB1 hS1; clear hS1; have HS1 := Sta.new HS0 hA1 hB1 (by simp); clear hA1 hB1))
    go_ret3
    exact ⟨.map none, by rw [HY.out, HC.out]; rfl, fun q => absurd (HC.out.symm.trans q) (by decide), Sta.fin HS1⟩
  · as_aux_lemma =>
    have d5 : decide ((20000 : Int) < (t.size : Int)) = false := decide_eq_false (by omega)
    have HF := hidP hs
    have HC := hidP hc
    have HY := hidP hy
    clear hc hy hs
    go_wp2_with (first
      | ((with_reducible refine wpList_boxV (w := w) (by with_unfolding_all rfl) 27 (.tmp 0) (by with_unfolding_all rfl) [.slice a n c] (by with_unfolding_all rfl) ?_); intro w2 hA2 hB2 hS2; clear hS2; have HS2 := Sta.new HS0 hA2 hB2 (by simp); clear hA2 hB2)
      | ((with_reducible refine wpList_loadV (w := w2) (by with_unfolding_all rfl) 27 (.tmp 2) (by with_unfolding_all rfl) w.heap.size [.slice a n c] (by with_unfolding_all rfl) (Sta.r (i := 0) HS2 (by with_unfolding_all rfl)) Tryd.uT_implStore 1 Tryd.sT_implStore (by with_unfolding_all rfl) ?_))
      | (go_at_call 28; have n3_0 : SA w2 a l ∧ ArrU w2 0 keys ∧ 0 < w2.heap.size := (Sta.t (i := 0) HS2 rfl :); (with_reducible refine (hC1 w2 n3_0 HN.out HM.out HX.out HF.out).mono ?_); rintro r w3 ⟨rfl, hB3⟩; have HS3 := Sta.call HS2 hB3; clear hB3))
    go_ret3
    exact ⟨.map none, by rw [HY.out, HC.out]; rfl, fun q => absurd (HC.out.symm.trans q) (by decide), Sta.fin HS3⟩
  · as_aux_lemma =>
    have d5 : decide ((20000 : Int) < (t.size : Int)) = false := decide_eq_false (by omega)
    have HF := hidP hs
    have HO := hidP hf
    have HC := hidP hc
    have HY := hidP hy
    clear hc hy hs hf
    go_wp2_with (first
      | ((with_reducible refine wpList_boxV (w := w) (by with_unfolding_all rfl) 27 (.tmp 0) (by with_unfolding_all rfl) [.slice a n c] (by with_unfolding_all rfl) ?_); intro w4 hA4 hB4 hS4; clear hS4; have HS4 := Sta.new HS0 hA4 hB4 (by simp); clear hA4 hB4)
      | ((with_reducible refine wpList_loadV (w := w4) (by with_unfolding_all rfl) 27 (.tmp 2) (by with_unfolding_all rfl) w.heap.size [.slice a n c] (by with_unfolding_all rfl) (Sta.r (i := 0) HS4 (by with_unfolding_all rfl)) Tryd.uT_implStore 1 Tryd.sT_implStore (by with_unfolding_all rfl) ?_))
      | (go_at_call 28; have n5_0 : SA w4 a l ∧ ArrU w4 0 keys ∧ 0 < w4.heap.size := (Sta.t (i := 0) HS4 rfl :); (with_reducible refine (hC2 w4 n5_0 HN.out HM.out HX.out HF.out).mono ?_); rintro r w5 ⟨B, rfl, hP5, hB5⟩; have HS5 := Sta.made HS4 hB5 hP5; clear hB5 hP5)
      | (go_at_call 44; have n6_0 : MapK w5 B l := (Sta.t (i := 0) HS5 rfl :); (with_reducible refine (hC3 w5 B n6_0 HF.out HT.out HO.out).mono ?_); rintro r w6 ⟨rfl, hB6⟩; have HS6 := Sta.call HS5 hB6; clear hB6))
    go_ret3
    exact ⟨.map none, by rw [HY.out, HC.out]; rfl, fun q => absurd (HC.out.symm.trans q) (by decide), Sta.fin HS6⟩
  · as_aux_lemma =>
    have d5 : decide ((20000 : Int) < (t.size : Int)) = false := decide_eq_false (by omega)
    have HF := hidP hs
    have HO := hidP hf
    have HC := hidP hc
    have HY := hidP hy
    clear hc hy hs hf
    go_wp2_with (first
      | ((with_reducible refine wpList_boxV (w := w) (by with_unfolding_all rfl) 27 (.tmp 0) (by with_unfolding_all rfl) [.slice a n c] (by with_unfolding_all rfl) ?_); intro w7 hA7 hB7 hS7; clear hS7; have HS7 := Sta.new HS0 hA7 hB7 (by simp); clear hA7 hB7)
      | ((with_reducible refine wpList_loadV (w := w7) (by with_unfolding_all rfl) 27 (.tmp 2) (by with_unfolding_all rfl) w.heap.size [.slice a n c] (by with_unfolding_all rfl) (Sta.r (i := 0) HS7 (by with_unfolding_all rfl)) Tryd.uT_implStore 1 Tryd.sT_implStore (by with_unfolding_all rfl) ?_))
      | (go_at_call 28; have n8_0 : SA w7 a l ∧ ArrU w7 0 keys ∧ 0 < w7.heap.size := (Sta.t (i := 0) HS7 rfl :); (with_reducible refine (hC2 w7 n8_0 HN.out HM.out HX.out HF.out).mono ?_); rintro r w8 ⟨B, rfl, hP8, hB8⟩; have HS8 := Sta.made HS7 hB8 hP8; clear hB8 hP8)
      | (go_at_call 44; have n9_0 : MapK w8 B l := (Sta.t (i := 0) HS8 rfl :); (with_reducible refine (hC4 w8 X B n9_0 HF.out HT.out HO.out).mono ?_); rintro r w9 ⟨rfl, hB9⟩; have HS9 := Sta.call HS8 hB9; clear hB9))
    go_ret3
    exact ⟨.map (some B), by rw [HY.out, HC.out]; rfl, fun _ => ⟨HF.out, B, rfl, Sta.made_of (i := 0) HS9 rfl (fun k hk => Nat.le_trans (Sta.size HS7) hk.1)⟩, Sta.fin HS9⟩
set_option maxRecDepth 100000 in
set_option maxHeartbeats 8000000 in
theorem implStGet (a : Option Addr) (c n : Nat) (l : List ByteArray) (t : ByteArray) (w : World) (hn : l.length = n) (h : SA w a l) (hm : n ≤ maxLen) (hx : ∀ x ∈ l, x.size ≤ maxLen) (hk : ArrU w 0 keys) (h0 : 0 < w.heap.size) (ht : t.size ≤ maxLen) :
    Calls Tryd.prog 13 #[.agg #[.slice a n c], .string t] w fun r w' => r = .returned (.agg #[.slice none 0 0, .string (getY l t), .int .i64 (getC l t)]) ∧ Below w.heap.size w w' := by
  have HM := hidP hm
  unfold maxLen at hm
  have HN := hidP hn
  have HX := hidP hx
  have HT := hidP ht
  unfold maxLen at ht
  obtain ⟨Y, hy⟩ : ∃ Y, getY l t = Y := ⟨_, rfl⟩
  obtain ⟨C, hc⟩ : ∃ C, getC l t = C := ⟨_, rfl⟩
  have HA := hidP (show getY l t = Y ∧ getC l t = C from ⟨hy, hc⟩)
  clear hy hc
  have hC1 : ∀ w0, (SA w0 a l ∧ ArrU w0 0 keys ∧ 0 < w0.heap.size) → (l.length = n) → (n ≤ maxLen) → (∀ x ∈ l, x.size ≤ maxLen) → (t.size ≤ maxLen) → (getY l t = Y ∧ getC l t = C) → Calls Tryd.prog 31 #[.agg #[.slice a n c], .string t] w0 fun r w' => ∃ (M : Value), r = .returned (.tuple #[M, .string Y, .int .i64 C]) ∧ Below w0.heap.size w0 w' := fun w0 n0 n1 n2 n3 n4 n5 => by rw [← n5.1, ← n5.2]; exact (implFetch a c n l t w0 n1 n0.1 n2 n3 n0.2.1 n0.2.2 n4).mono fun r w' ⟨M, h1, h2, h3⟩ => ⟨M, h1, h3⟩
  have hC2 : ∀ w0, Calls Tryd.prog 32 #[.string Y] w0 fun r w' => r = .returned (.string Y) ∧ Below w0.heap.size w0 w' := fun w0 => ownText_any Y w0
  have HS0 : Hid (Sta [] w [] [⟨fun k => k < w.heap.size, fun w' => SA w' a l ∧ ArrU w' 0 keys ∧ 0 < w'.heap.size⟩] w) := Sta.arg (fun w' => SA w' a l ∧ ArrU w' 0 keys ∧ 0 < w'.heap.size) (fun w' hb => ⟨h.below hb, hk.below hb h0, Nat.lt_of_lt_of_le h0 hb.size⟩)
  clear hn h hx hk h0
  go_enter Tryd.func13, Tryd.ntmps13
  go_wp2_with (first
    | ((with_reducible refine wpList_boxV (w := w) (by with_unfolding_all rfl) 27 (.tmp 0) (by with_unfolding_all rfl) [.slice a n c] (by with_unfolding_all rfl) ?_); intro w1 hA1 hB1 hS1; clear hS1; have HS1 := Sta.new HS0 hA1 hB1 (by simp); clear hA1 hB1)
    | ((with_reducible refine wpList_allocV (w := w1) (by with_unfolding_all rfl) 32 (by with_unfolding_all rfl) [.slice none 0 0, .string ⟨#[]⟩, .int .i64 0] Tryd.zT_implStoreOut ?_); intro w2 hA2 hB2 hS2; clear hS2; have HS2 := Sta.new HS1 hA2 hB2 (by simp); clear hA2 hB2)
    | ((with_reducible refine wpList_loadV (w := w2) (by with_unfolding_all rfl) 27 (.tmp 2) (by with_unfolding_all rfl) w.heap.size [.slice a n c] (by with_unfolding_all rfl) (Sta.r (i := 1) HS2 (by with_unfolding_all rfl)) Tryd.uT_implStore 1 Tryd.sT_implStore (by with_unfolding_all rfl) ?_))
    | (go_at_call 31; have n3_0 : SA w2 a l ∧ ArrU w2 0 keys ∧ 0 < w2.heap.size := (Sta.t (i := 0) HS2 rfl :); (with_reducible refine (hC1 w2 n3_0 HN.out HM.out HX.out HT.out HA.out).mono ?_); rintro r w3 ⟨M, rfl, hB3⟩; have HS3 := Sta.call HS2 hB3; clear hB3)
    | (go_at_call 32; (with_reducible refine (hC2 w3).mono ?_); rintro r w4 ⟨rfl, hB4⟩; have HS4 := Sta.call HS3 hB4; clear hB4)
    | ((with_reducible refine wpList_storeS (w := w4) (by with_unfolding_all rfl) 32 (.tmp 4) (.tmp 18) (by with_unfolding_all rfl) w1.heap.size [.slice none 0 0, .string ⟨#[]⟩, .int .i64 0] [.slice none 0 0, .string Y, .int .i64 C] (by with_unfolding_all rfl) (by with_unfolding_all rfl) (Sta.r (i := 0) HS4 (by with_unfolding_all rfl)) 3 Tryd.sT_implStoreOut (by with_unfolding_all rfl) (by with_unfolding_all rfl) (by with_unfolding_all rfl) ?_); intro w5 hA5 hO5; have HS5 := Sta.put 0 HS4 rfl hA5 (by simp) hO5; clear hA5 hO5))
  exact bodyPost_ret (results_V (t := 32) rfl _ w1.heap.size [.slice none 0 0, .string Y, .int .i64 C] rfl (Sta.r (i := 0) HS5 (by with_unfolding_all rfl)) Tryd.uT_implStoreOut 3 Tryd.sT_implStoreOut rfl) rfl ⟨by rw [HA.out.1, HA.out.2], Sta.fin HS5⟩
set_option maxRecDepth 100000 in
set_option maxHeartbeats 8000000 in
theorem specStGet (a : Option Addr) (c n : Nat) (l : List ByteArray) (t : ByteArray) (w : World) (hn : l.length = n) (h : SA w a l) (hm : n ≤ maxLen) (hx : ∀ x ∈ l, x.size ≤ maxLen) (ht : t.size ≤ maxLen) :
    Calls Tryd.prog 12 #[.agg #[.slice a n c], .string t] w fun r w' => r = .returned (.agg #[.slice none 0 0, .string (getY l t), .int .i64 (getC l t)]) ∧ Below w.heap.size w w' := by
  have HM := hidP hm
  unfold maxLen at hm
  have HN := hidP hn
  have HX := hidP hx
  have HT := hidP ht
  unfold maxLen at ht
  have hC1 : ∀ w0, (SA w0 a l) → (l.length = n) → (n ≤ maxLen) → (∀ x ∈ l, x.size ≤ maxLen) → (¬ StOk l) → Calls Tryd.prog 8 #[.agg #[.slice a n c]] w0 fun r w' => r = .returned (.bool false) ∧ Below w0.heap.size w0 w' := fun w0 n0 n1 n2 n3 n4 => by rw [← boolP_no n4]; exact specStRight a c n l w0 n1 n0 n2 n3
  have hC2 : ∀ w0, (SA w0 a l) → (l.length = n) → (n ≤ maxLen) → (∀ x ∈ l, x.size ≤ maxLen) → (StOk l) → Calls Tryd.prog 8 #[.agg #[.slice a n c]] w0 fun r w' => r = .returned (.bool true) ∧ Below w0.heap.size w0 w' := fun w0 n0 n1 n2 n3 n4 => by rw [← boolP_yes n4]; exact specStRight a c n l w0 n1 n0 n2 n3
  have hC3 : ∀ w0, (SA w0 a l) → (l.length = n) → (n ≤ maxLen) → (∀ x ∈ l, x.size ≤ maxLen) → (t.size ≤ maxLen) → (findO l t = none) → Calls Tryd.prog 30 #[.agg #[.slice a n c], .string t] w0 fun r w' => r = .returned (.tuple #[.string ⟨#[]⟩, .bool false]) ∧ Below w0.heap.size w0 w' := fun w0 n0 n1 n2 n3 n4 n5 => by have := specFind a c n l t w0 n1 n0 n2 n3 n4; rw [n5] at this; exact this
  have hC4 : ∀ w0 (X : ByteArray), (SA w0 a l) → (l.length = n) → (n ≤ maxLen) → (∀ x ∈ l, x.size ≤ maxLen) → (t.size ≤ maxLen) → (findO l t = some X) → Calls Tryd.prog 30 #[.agg #[.slice a n c], .string t] w0 fun r w' => r = .returned (.tuple #[.string X, .bool true]) ∧ Below w0.heap.size w0 w' := fun w0 X n0 n1 n2 n3 n4 n5 => by have := specFind a c n l t w0 n1 n0 n2 n3 n4; rw [n5] at this; exact this
  have HS0 : Hid (Sta [] w [] [⟨fun k => k < w.heap.size, fun w' => SA w' a l⟩] w) := Sta.arg (fun w' => SA w' a l) (fun w' hb => h.below hb)
  clear hn h hx
  go_enter Tryd.func12, Tryd.ntmps12
  rcases get_cases l t with ⟨g, hc, hy⟩ | ⟨g, hs, hc, hy⟩ | ⟨g, hs, hf, hc, hy⟩ | ⟨X, g, hs, hf, hc, hy⟩
  · as_aux_lemma =>
    have d5 : decide ((20000 : Int) < (t.size : Int)) = true := decide_eq_true (by omega)
    have HC := hidP hc
    have HY := hidP hy
    clear hc hy
    go_wp2_with (first
      | ((with_reducible refine wpList_boxV (w := w) (by with_unfolding_all rfl) 27 (.tmp 0) (by with_unfolding_all rfl) [.slice a n c] (by with_unfolding_all rfl) ?_); intro w1 hA1 hB1 hS1; clear hS1; have HS1 := Sta.new HS0 hA1 hB1 (by simp); clear hA1 hB1)
      | ((with_reducible refine wpList_allocV (w := w1) (by with_unfolding_all rfl) 32 (by with_unfolding_all rfl) [.slice none 0 0, .string ⟨#[]⟩, .int .i64 0] Tryd.zT_implStoreOut ?_); intro w2 hA2 hB2 hS2; clear hS2; have HS2 := Sta.new HS1 hA2 hB2 (by simp); clear hA2 hB2)
      | ((with_reducible refine wpList_storeS (w := w2) (by with_unfolding_all rfl) 32 (.tmp 4) (.tmp 10) (by with_unfolding_all rfl) w1.heap.size [.slice none 0 0, .string ⟨#[]⟩, .int .i64 0] [.slice none 0 0, .string ⟨#[]⟩, .int .i64 2] (by with_unfolding_all rfl) (by with_unfolding_all rfl) (Sta.r (i := 0) HS2 (by with_unfolding_all rfl)) 3 Tryd.sT_implStoreOut (by with_unfolding_all rfl) (by with_unfolding_all rfl) (by with_unfolding_all rfl) ?_); intro w3 hA3 hO3; have HS3 := Sta.put 0 HS2 rfl hA3 (by simp) hO3; clear hA3 hO3))
    exact bodyPost_ret (results_V (t := 32) rfl _ w1.heap.size [.slice none 0 0, .string ⟨#[]⟩, .int .i64 2] rfl (Sta.r (i := 0) HS3 (by with_unfolding_all rfl)) Tryd.uT_implStoreOut 3 Tryd.sT_implStoreOut rfl) rfl ⟨by rw [HY.out, HC.out], Sta.fin HS3⟩
  · as_aux_lemma =>
    have d5 : decide ((20000 : Int) < (t.size : Int)) = false := decide_eq_false (by omega)
    have HF := hidP hs
    have HC := hidP hc
    have HY := hidP hy
    clear hc hy hs
    go_wp2_with (first
      | ((with_reducible refine wpList_boxV (w := w) (by with_unfolding_all rfl) 27 (.tmp 0) (by with_unfolding_all rfl) [.slice a n c] (by with_unfolding_all rfl) ?_); intro w4 hA4 hB4 hS4; clear hS4; have HS4 := Sta.new HS0 hA4 hB4 (by simp); clear hA4 hB4)
      | ((with_reducible refine wpList_allocV (w := w4) (by with_unfolding_all rfl) 32 (by with_unfolding_all rfl) [.slice none 0 0, .string ⟨#[]⟩, .int .i64 0] Tryd.zT_implStoreOut ?_); intro w5 hA5 hB5 hS5; clear hS5; have HS5 := Sta.new HS4 hA5 hB5 (by simp); clear hA5 hB5)
      | ((with_reducible refine wpList_loadV (w := w5) (by with_unfolding_all rfl) 27 (.tmp 2) (by with_unfolding_all rfl) w.heap.size [.slice a n c] (by with_unfolding_all rfl) (Sta.r (i := 1) HS5 (by with_unfolding_all rfl)) Tryd.uT_implStore 1 Tryd.sT_implStore (by with_unfolding_all rfl) ?_))
      | (go_at_call 8; have n6_0 : SA w5 a l := (Sta.t (i := 0) HS5 rfl :); (with_reducible refine (hC1 w5 n6_0 HN.out HM.out HX.out HF.out).mono ?_); rintro r w6 ⟨rfl, hB6⟩; have HS6 := Sta.call HS5 hB6; clear hB6)
      | ((with_reducible refine wpList_storeS (w := w6) (by with_unfolding_all rfl) 32 (.tmp 4) (.tmp 14) (by with_unfolding_all rfl) w4.heap.size [.slice none 0 0, .string ⟨#[]⟩, .int .i64 0] [.slice none 0 0, .string ⟨#[]⟩, .int .i64 1] (by with_unfolding_all rfl) (by with_unfolding_all rfl) (Sta.r (i := 0) HS6 (by with_unfolding_all rfl)) 3 Tryd.sT_implStoreOut (by with_unfolding_all rfl) (by with_unfolding_all rfl) (by with_unfolding_all rfl) ?_); intro w7 hA7 hO7; have HS7 := Sta.put 0 HS6 rfl hA7 (by simp) hO7; clear hA7 hO7))
    exact bodyPost_ret (results_V (t := 32) rfl _ w4.heap.size [.slice none 0 0, .string ⟨#[]⟩, .int .i64 1] rfl (Sta.r (i := 0) HS7 (by with_unfolding_all rfl)) Tryd.uT_implStoreOut 3 Tryd.sT_implStoreOut rfl) rfl ⟨by rw [HY.out, HC.out], Sta.fin HS7⟩
  · as_aux_lemma =>
    have d5 : decide ((20000 : Int) < (t.size : Int)) = false := decide_eq_false (by omega)
    have HF := hidP hs
    have HO := hidP hf
    have HC := hidP hc
    have HY := hidP hy
    clear hc hy hs hf
    go_wp2_with (first
      | ((with_reducible refine wpList_boxV (w := w) (by with_unfolding_all rfl) 27 (.tmp 0) (by with_unfolding_all rfl) [.slice a n c] (by with_unfolding_all rfl) ?_); intro w8 hA8 hB8 hS8; clear hS8; have HS8 := Sta.new HS0 hA8 hB8 (by simp); clear hA8 hB8)
      | ((with_reducible refine wpList_allocV (w := w8) (by with_unfolding_all rfl) 32 (by with_unfolding_all rfl) [.slice none 0 0, .string ⟨#[]⟩, .int .i64 0] Tryd.zT_implStoreOut ?_); intro w9 hA9 hB9 hS9; clear hS9; have HS9 := Sta.new HS8 hA9 hB9 (by simp); clear hA9 hB9)
      | ((with_reducible refine wpList_loadV (w := w9) (by with_unfolding_all rfl) 27 (.tmp 2) (by with_unfolding_all rfl) w.heap.size [.slice a n c] (by with_unfolding_all rfl) (Sta.r (i := 1) HS9 (by with_unfolding_all rfl)) Tryd.uT_implStore 1 Tryd.sT_implStore (by with_unfolding_all rfl) ?_))
      | (go_at_call 8; have n10_0 : SA w9 a l := (Sta.t (i := 0) HS9 rfl :); (with_reducible refine (hC2 w9 n10_0 HN.out HM.out HX.out HF.out).mono ?_); rintro r w10 ⟨rfl, hB10⟩; have HS10 := Sta.call HS9 hB10; clear hB10)
      | ((with_reducible refine wpList_loadV (w := w10) (by with_unfolding_all rfl) 27 (.tmp 2) (by with_unfolding_all rfl) w.heap.size [.slice a n c] (by with_unfolding_all rfl) (Sta.r (i := 1) HS10 (by with_unfolding_all rfl)) Tryd.uT_implStore 1 Tryd.sT_implStore (by with_unfolding_all rfl) ?_))
      | (go_at_call 30; have n11_0 : SA w10 a l := (Sta.t (i := 0) HS10 rfl :); (with_reducible refine (hC3 w10 n11_0 HN.out HM.out HX.out HT.out HO.out).mono ?_); rintro r w11 ⟨rfl, hB11⟩; have HS11 := Sta.call HS10 hB11; clear hB11)
      | ((with_reducible refine wpList_storeS (w := w11) (by with_unfolding_all rfl) 32 (.tmp 4) (.tmp 23) (by with_unfolding_all rfl) w8.heap.size [.slice none 0 0, .string ⟨#[]⟩, .int .i64 0] [.slice none 0 0, .string ⟨#[]⟩, .int .i64 9] (by with_unfolding_all rfl) (by with_unfolding_all rfl) (Sta.r (i := 0) HS11 (by with_unfolding_all rfl)) 3 Tryd.sT_implStoreOut (by with_unfolding_all rfl) (by with_unfolding_all rfl) (by with_unfolding_all rfl) ?_); intro w12 hA12 hO12; have HS12 := Sta.put 0 HS11 rfl hA12 (by simp) hO12; clear hA12 hO12))
    exact bodyPost_ret (results_V (t := 32) rfl _ w8.heap.size [.slice none 0 0, .string ⟨#[]⟩, .int .i64 9] rfl (Sta.r (i := 0) HS12 (by with_unfolding_all rfl)) Tryd.uT_implStoreOut 3 Tryd.sT_implStoreOut rfl) rfl ⟨by rw [HY.out, HC.out], Sta.fin HS12⟩
  · as_aux_lemma =>
    have d5 : decide ((20000 : Int) < (t.size : Int)) = false := decide_eq_false (by omega)
    have HF := hidP hs
    have HO := hidP hf
    have HC := hidP hc
    have HY := hidP hy
    clear hc hy hs hf
    go_wp2_with (first
      | ((with_reducible refine wpList_boxV (w := w) (by with_unfolding_all rfl) 27 (.tmp 0) (by with_unfolding_all rfl) [.slice a n c] (by with_unfolding_all rfl) ?_); intro w13 hA13 hB13 hS13; clear hS13; have HS13 := Sta.new HS0 hA13 hB13 (by simp); clear hA13 hB13)
      | ((with_reducible refine wpList_allocV (w := w13) (by with_unfolding_all rfl) 32 (by with_unfolding_all rfl) [.slice none 0 0, .string ⟨#[]⟩, .int .i64 0] Tryd.zT_implStoreOut ?_); intro w14 hA14 hB14 hS14; clear hS14; have HS14 := Sta.new HS13 hA14 hB14 (by simp); clear hA14 hB14)
      | ((with_reducible refine wpList_loadV (w := w14) (by with_unfolding_all rfl) 27 (.tmp 2) (by with_unfolding_all rfl) w.heap.size [.slice a n c] (by with_unfolding_all rfl) (Sta.r (i := 1) HS14 (by with_unfolding_all rfl)) Tryd.uT_implStore 1 Tryd.sT_implStore (by with_unfolding_all rfl) ?_))
      | (go_at_call 8; have n15_0 : SA w14 a l := (Sta.t (i := 0) HS14 rfl :); (with_reducible refine (hC2 w14 n15_0 HN.out HM.out HX.out HF.out).mono ?_); rintro r w15 ⟨rfl, hB15⟩; have HS15 := Sta.call HS14 hB15; clear hB15)
      | ((with_reducible refine wpList_loadV (w := w15) (by with_unfolding_all rfl) 27 (.tmp 2) (by with_unfolding_all rfl) w.heap.size [.slice a n c] (by with_unfolding_all rfl) (Sta.r (i := 1) HS15 (by with_unfolding_all rfl)) Tryd.uT_implStore 1 Tryd.sT_implStore (by with_unfolding_all rfl) ?_))
      | (go_at_call 30; have n16_0 : SA w15 a l := (Sta.t (i := 0) HS15 rfl :); (with_reducible refine (hC4 w15 X n16_0 HN.out HM.out HX.out HT.out HO.out).mono ?_); rintro r w16 ⟨rfl, hB16⟩; have HS16 := Sta.call HS15 hB16; clear hB16)
      | ((with_reducible refine wpList_storeS (w := w16) (by with_unfolding_all rfl) 32 (.tmp 4) (.tmp 25) (by with_unfolding_all rfl) w13.heap.size [.slice none 0 0, .string ⟨#[]⟩, .int .i64 0] [.slice none 0 0, .string X, .int .i64 0] (by with_unfolding_all rfl) (by with_unfolding_all rfl) (Sta.r (i := 0) HS16 (by with_unfolding_all rfl)) 3 Tryd.sT_implStoreOut (by with_unfolding_all rfl) (by with_unfolding_all rfl) (by with_unfolding_all rfl) ?_); intro w17 hA17 hO17; have HS17 := Sta.put 0 HS16 rfl hA17 (by simp) hO17; clear hA17 hO17))
    exact bodyPost_ret (results_V (t := 32) rfl _ w13.heap.size [.slice none 0 0, .string X, .int .i64 0] rfl (Sta.r (i := 0) HS17 (by with_unfolding_all rfl)) Tryd.uT_implStoreOut 3 Tryd.sT_implStoreOut rfl) rfl ⟨by rw [HY.out, HC.out], Sta.fin HS17⟩
end Go.Proofs.YtchfpiadfmnphaaDoor
namespace Go.Proofs.YtchfpiadfmnphaaDoor
open Go.RowKit
set_option linter.unusedVariables false

def layStep (l : List ByteArray) (a : List ByteArray × Int) (x : LayV) : List ByteArray × Int :=
  if a.2 = 0 then (match findO l x.bl with
    | none => ([], 9)
    | some y => if (y.size : Int) = x.sz then (a.1 ++ [y], 0) else ([], 5)) else a
def layG (l : List ByteArray) (ls : List LayV) : List ByteArray × Int := ls.foldl (layStep l) ([], 0)
theorem layStay (l : List ByteArray) : ∀ (ls : List LayV) (a : List ByteArray × Int), ¬ a.2 = 0 → ls.foldl (layStep l) a = a
  | [], a, _ => rfl
  | x :: ls, a, h => by rw [List.foldl_cons, show layStep l a x = a from if_neg h]; exact layStay l ls a h
theorem layG_step {l : List ByteArray} {ls : List LayV} {k : Nat} {x : LayV} (hk : k < ls.length) (hx : ls[k] = x) : layG l (ls.take (k + 1)) = layStep l (layG l (ls.take k)) x := by
  unfold layG
  rw [← hx, ← List.take_append_getElem hk, List.foldl_append]
  rfl
theorem layG_end {l : List ByteArray} {ls : List LayV} {k : Nat} {c : Int} {Z : List ByteArray} (h : layG l (ls.take k) = (Z, c)) (hc : ¬ c = 0) : layG l ls = (Z, c) := by
  have e : layG l ls = (ls.drop k).foldl (layStep l) (layG l (ls.take k)) := by
    unfold layG
    rw [← List.foldl_append, List.take_append_drop]
  rw [e, h, layStay l _ _ hc]
theorem layG_none {l : List ByteArray} {ls : List LayV} {k : Nat} {x0 : ByteArray} {x1 : Int} {ys : List ByteArray} (hk : k < ls.length) (h0 : ls[k].bl = x0) (h1 : ls[k].sz = x1) (h : layG l (ls.take k) = (ys, 0)) (hf : findO l x0 = none) : layG l ls = ([], 9) := by
  refine layG_end (k := k + 1) (c := 9) ?_ (by decide)
  rw [layG_step hk rfl, h]
  unfold layStep
  rw [if_pos rfl, h0, hf]
theorem layG_size {l : List ByteArray} {ls : List LayV} {k : Nat} {x0 y : ByteArray} {x1 : Int} {ys : List ByteArray} (hk : k < ls.length) (h0 : ls[k].bl = x0) (h1 : ls[k].sz = x1) (h : layG l (ls.take k) = (ys, 0)) (hf : findO l x0 = some y) (hs : ¬ (y.size : Int) = x1) : layG l ls = ([], 5) := by
  refine layG_end (k := k + 1) (c := 5) ?_ (by decide)
  rw [layG_step hk rfl, h]
  unfold layStep
  rw [if_pos rfl, h0, hf, h1]
  exact if_neg hs
theorem layG_next {l : List ByteArray} {ls : List LayV} {k : Nat} {x0 y : ByteArray} {x1 : Int} {ys : List ByteArray} (hk : k < ls.length) (h0 : ls[k].bl = x0) (h1 : ls[k].sz = x1) (h : layG l (ls.take k) = (ys, 0)) (hf : findO l x0 = some y) (hs : (y.size : Int) = x1) : layG l (ls.take (k + 1)) = (ys ++ [y], 0) := by
  rw [layG_step hk rfl, h]
  unfold layStep
  rw [if_pos rfl, h0, hf, h1]
  exact if_pos hs
theorem layG_all {l : List ByteArray} {ls : List LayV} {n : Nat} {ys : List ByteArray} (h : layG l (ls.take n) = (ys, 0)) (hn : ls.length = n) : layG l ls = (ys, 0) := by
  rw [List.take_of_length_le (Nat.le_of_eq hn)] at h; exact h
/- What Materialize answers. -/
def ImAns (l : List ByteArray) (t nm : ByteArray) (ls : List LayV) (bs : List LabV) (ys : List ByteArray) (c : Int) : Prop :=
  (¬ getC l t = 0 ∧ c = getC l t ∧ nm = ⟨#[]⟩ ∧ ls = [] ∧ bs = [] ∧ ys = []) ∨
  (getC l t = 0 ∧ ∃ nm' ls' bs' c', MnAns (getY l t) nm' ls' bs' c' ∧ ((¬ c' = 0 ∧ c = c' ∧ nm = ⟨#[]⟩ ∧ ls = [] ∧ bs = [] ∧ ys = []) ∨ (c' = 0 ∧ ¬ (layG l ls').2 = 0 ∧ c = (layG l ls').2 ∧ nm = ⟨#[]⟩ ∧ ls = [] ∧ bs = [] ∧ ys = []) ∨ (c' = 0 ∧ (layG l ls').2 = 0 ∧ c = 0 ∧ nm = nm' ∧ ls = ls' ∧ bs = bs' ∧ ys = (layG l ls').1)))
theorem imAns_one {l : List ByteArray} {t nm nm2 : ByteArray} {ls ls2 : List LayV} {bs bs2 : List LabV} {ys ys2 : List ByteArray} {c c2 : Int} (h : ImAns l t nm ls bs ys c) (k : ImAns l t nm2 ls2 bs2 ys2 c2) : nm = nm2 ∧ ls = ls2 ∧ bs = bs2 ∧ ys = ys2 ∧ c = c2 := by
  rcases h with ⟨a, rfl, rfl, rfl, rfl, rfl⟩ | ⟨a, n1, l1, b1, c1, m1, h⟩
  · rcases k with ⟨b, rfl, rfl, rfl, rfl, rfl⟩ | ⟨b, _⟩
    · exact ⟨rfl, rfl, rfl, rfl, rfl⟩
    · exact absurd b a
  · rcases k with ⟨b, _⟩ | ⟨b, n2, l2, b2, c2', m2, k⟩
    · exact absurd a b
    · obtain ⟨rfl, rfl, rfl, rfl⟩ := mnAns_one m1 m2
      rcases h with ⟨e1, rfl, rfl, rfl, rfl, rfl⟩ | ⟨e1, e2, rfl, rfl, rfl, rfl, rfl⟩ | ⟨e1, e2, rfl, rfl, rfl, rfl, rfl⟩ <;>
      rcases k with ⟨f1, rfl, rfl, rfl, rfl, rfl⟩ | ⟨f1, f2, rfl, rfl, rfl, rfl, rfl⟩ | ⟨f1, f2, rfl, rfl, rfl, rfl, rfl⟩ <;>
      first | exact ⟨rfl, rfl, rfl, rfl, rfl⟩ | exact absurd f1 e1 | exact absurd e1 f1 | exact absurd e2 f2 | exact absurd f2 e2
theorem manO_ok {t nm : ByteArray} {ls : List LayV} {bs : List LabV} {p q : Nat} (h : manO t p = some (nm, ls, bs, q)) : ManOk nm ls bs := by
  unfold manO at h
  split at h
  · cases h
  · split at h
    · cases h
    · unfold restLs at h
      split at h
      · cases h
      · unfold restC at h
        split at h
        · cases h
        · unfold restBs at h
          split at h
          · cases h
          · split at h
            · rename_i hb
              simp only [Option.some.injEq, Prod.mk.injEq] at h
              obtain ⟨rfl, rfl, rfl, rfl⟩ := h
              exact boolP_of hb
            · cases h
theorem i64_small {z : Int} (h : 0 ≤ z) (k : z ≤ 3000) : I64 z := by
  unfold I64
  simp [Lit.wf, IntKind.min, IntKind.max, IntKind.signed, IntKind.bits]
  omega
theorem mnAns_ok {t nm : ByteArray} {ls : List LayV} {bs : List LabV} {c : Int} (h : MnAns t nm ls bs c) : ls.length ≤ 10 ∧ bs.length ≤ 10 ∧ ∀ x ∈ ls, x.w := by
  rcases h with ⟨_, _, rfl, rfl, _⟩ | ⟨_, ⟨_, q, h, _⟩, _⟩ | ⟨_, _, _, rfl, rfl, _⟩
  · exact ⟨Nat.zero_le _, Nat.zero_le _, fun x hx => by cases hx⟩
  · have hk := manO_ok h
    refine ⟨hk.2.1.1, hk.2.2.1, fun x hx => ?_⟩
    obtain ⟨i, hi, rfl⟩ := List.mem_iff_getElem.1 hx
    obtain ⟨h1, h2, h3⟩ := hk.2.1.2 i hi
    exact ⟨by rw [h1]; decide, i64_small h2 h3⟩
  · exact ⟨Nat.zero_le _, Nat.zero_le _, fun x hx => by cases hx⟩
theorem getY_size {l : List ByteArray} {t : ByteArray} (h : getC l t = 0) : (getY l t).size ≤ 3000 ∧ StOk l ∧ findO l t = some (getY l t) := by
  rcases get_cases l t with ⟨g, hc, hy⟩ | ⟨g, hs, hc, hy⟩ | ⟨g, hs, hf, hc, hy⟩ | ⟨X, g, hs, hf, hc, hy⟩
  · rw [hc] at h; cases h
  · rw [hc] at h; cases h
  · rw [hc] at h; cases h
  · rw [hy]
    obtain ⟨h1, h2⟩ := findO_le hf
    obtain ⟨i, hi, rfl⟩ := List.mem_iff_getElem.1 h1
    exact ⟨hs.2.1 i hi hi, hs, hf⟩
theorem layStep_len (l : List ByteArray) : ∀ (ls : List LayV) (a : List ByteArray × Int), (ls.foldl (layStep l) a).1.length ≤ a.1.length + ls.length
  | [], a => Nat.le_refl _
  | x :: ls, a => by
    rw [List.foldl_cons]
    refine Nat.le_trans (layStep_len l ls _) ?_
    have h : (layStep l a x).1.length ≤ a.1.length + 1 := by
      unfold layStep
      split
      · split
        · exact Nat.zero_le _
        · split
          · simp
          · exact Nat.zero_le _
      · omega
    rw [List.length_cons]
    omega
theorem layG_len {l : List ByteArray} {ls : List LayV} {Z : List ByteArray} {c : Int} (h : layG l ls = (Z, c)) (h10 : ls.length ≤ 10) : Z.length ≤ 10 := by
  have := layStep_len l ls ([], 0)
  have e : ls.foldl (layStep l) ([], 0) = (Z, c) := h
  rw [e] at this
  have h2 : Z.length ≤ 0 + ls.length := this
  omega
theorem getC_big {l : List ByteArray} {t : ByteArray} (h : 20000 < t.size) : getC l t = 2 := by unfold getC; rw [if_pos h]
theorem getC_bad {l : List ByteArray} {t : ByteArray} (h : ¬ 20000 < t.size) (hs : ¬ StOk l) : getC l t = 1 := by unfold getC; rw [if_neg h, if_neg (by rw [boolP_no hs]; decide)]
theorem getC_none {l : List ByteArray} {t : ByteArray} (h : ¬ 20000 < t.size) (hs : StOk l) (hf : findO l t = none) : getC l t = 9 := by unfold getC; rw [if_neg h, if_pos (boolP_yes hs), hf]; rfl
theorem getC_yes {l : List ByteArray} {t X : ByteArray} (h : ¬ 20000 < t.size) (hs : StOk l) (hf : findO l t = some X) : getC l t = 0 ∧ getY l t = X := by
  unfold getC getY
  rw [if_neg h, if_neg h, if_pos (boolP_yes hs), if_pos (boolP_yes hs), hf]
  exact ⟨rfl, rfl⟩
def ImB (a1 a2 a3 : Option Addr) (lo hi : Nat) : Prop := (∀ ad, a1 = some ad → lo ≤ ad.block ∧ ad.block < hi) ∧ (∀ ad, a2 = some ad → lo ≤ ad.block ∧ ad.block < hi) ∧ (∀ ad, a3 = some ad → lo ≤ ad.block ∧ ad.block < hi) ∧ (∀ x y, a1 = some x → a2 = some y → x.block ≠ y.block) ∧ (∀ x y, a1 = some x → a3 = some y → x.block ≠ y.block) ∧ (∀ x y, a2 = some x → a3 = some y → x.block ≠ y.block)
theorem ImB.nil (a b : Nat) : ImB none none none a b := ⟨fun _ e => (by cases e), fun _ e => (by cases e), fun _ e => (by cases e), fun _ _ e => (by cases e), fun _ _ e => (by cases e), fun _ _ e => (by cases e)⟩
end Go.Proofs.YtchfpiadfmnphaaDoor
namespace Go.Proofs.YtchfpiadfmnphaaDoor
open Go.RowKit
set_option linter.unusedVariables false

set_option maxRecDepth 100000 in
set_option maxHeartbeats 16000000 in
theorem implLayers (B : Nat) (l : List ByteArray) (nm : ByteArray) (a1 : Option Addr) (c1 y1 : Nat) (ls : List LayV) (a2 : Option Addr) (c2 y2 : Nat) (w : World) (hM : MapK w B l) (hS : StOk l) (h1 : ls.length = y1) (h2 : LayAt w a1 ls) (h3 : y1 ≤ 10) (h4 : ∀ x ∈ ls, x.w) :
    Calls Tryd.prog 37 #[.map (some B), .agg #[.string nm, .slice a1 y1 c1, .slice a2 y2 c2]] w fun r w' => ∃ (a3 : Option Addr) (n3 c3 : Nat), r = .returned (.tuple #[.slice a3 n3 c3, .int .i64 (layG l ls).2]) ∧ n3 = (layG l ls).1.length ∧ (∀ ad, a3 = some ad → w.heap.size ≤ ad.block ∧ ad.block < w'.heap.size) ∧ Made w w' (fun w2 => VR w2 a3 (svl (layG l ls).1)) ∧ Below w.heap.size w w' := by
  have HSo := hidP hS
  have HN := hidP h1
  have HW := hidP h4
  have hC1 : ∀ w0 (x0 : ByteArray), (MapK w0 B l) → (StOk l) → (x0.size ≤ maxLen) → (findO l x0 = none) → Calls Tryd.prog 44 #[.map (some B), .string x0] w0 fun r w' => r = .returned (.tuple #[.string ⟨#[]⟩, .bool false]) ∧ Below w0.heap.size w0 w' := fun w0 x0 n0 n1 n2 n3 => by have := implGet B l x0 w0 n0 n1 n2; rw [n3] at this; exact this
  have hC2 : ∀ w0 (x0 : ByteArray) (y : ByteArray), (MapK w0 B l) → (StOk l) → (x0.size ≤ maxLen) → (findO l x0 = some y) → Calls Tryd.prog 44 #[.map (some B), .string x0] w0 fun r w' => r = .returned (.tuple #[.string y, .bool true]) ∧ Below w0.heap.size w0 w' := fun w0 x0 y n0 n1 n2 n3 => by have := implGet B l x0 w0 n0 n1 n2; rw [n3] at this; exact this
  have hC3 : ∀ w0 (y : ByteArray), Calls Tryd.prog 32 #[.string y] w0 fun r w' => r = .returned (.string y) ∧ Below w0.heap.size w0 w' := fun w0 y => ownText_any y w0
  have HS0 : Hid (Sta [] w [] [⟨fun k => k < w.heap.size, fun w' => MapK w' B l ∧ LayAt w' a1 ls⟩] w) := Sta.arg (fun w' => MapK w' B l ∧ LayAt w' a1 ls) (fun w' hb => ⟨hM.same (hb.block B hM.lt), h2.below hb⟩)
  clear hM hS h1 h2 h4
  go_enter Tryd.func37, Tryd.ntmps37
  go_wp2_with (first
    | ((with_reducible refine wpList_boxV (w := w) (by with_unfolding_all rfl) 41 (.tmp 1) (by with_unfolding_all rfl) [.string nm, .slice a1 y1 c1, .slice a2 y2 c2] (by with_unfolding_all rfl) ?_); intro w1 hA1 hB1 hS1; clear hS1; have HS1 := Sta.new HS0 hA1 hB1 (by simp); clear hA1 hB1; have cHS1_0_1 : w1.cell? ⟨w.heap.size, 1, none⟩ = some (.slice a1 y1 c1) := Sta.c (i := 0) HS1 rfl rfl))
  clear cHS1_0_1
  have HS2 : Hid (Sta [] w [(w.heap.size, [.string nm, .slice a1 y1 c1, .slice a2 y2 c2])] [⟨fun k => (Value.slice none 0 0).ownBlock = some k, fun w' => StrO w' w.heap.size (.slice none 0 0) ([])⟩, ⟨fun k => k < w.heap.size, fun w' => MapK w' B l ∧ LayAt w' a1 ls⟩] w1) := Sta.own0 w.heap.size 9 1 HS1
  go_wp2_with fail
  go_loopw [14, 6] (fun v0 v1 wr => ∃ (k : Nat) (aa : Option Addr) (na : Nat) (ca : Nat) (ys : List ByteArray), v0 = .int .i64 (k : Int) ∧ v1 = .slice aa na ca ∧ k ≤ y1 ∧ Hid (ys.length = k) ∧ Hid (layG l (ls.take k) = (ys, 0)) ∧ Hid (Sta [] w [(w.heap.size, [.string nm, .slice a1 y1 c1, .slice a2 y2 c2])] [⟨fun k => (Value.slice aa na ca).ownBlock = some k, fun w' => StrO w' w.heap.size (.slice aa na ca) ys⟩, ⟨fun k => k < w.heap.size, fun w' => MapK w' B l ∧ LayAt w' a1 ls⟩] wr)) (fun v0 v1 _ => y1 - (intOf v0).toNat)
  case atStart => exact ⟨0, none, 0, 0, [], rfl, rfl, Nat.zero_le _, rfl, rfl, HS2⟩
  case round =>
    rename Go.World => wl3
    clear HS2
    obtain ⟨k, aa, na, ca, ys, rfl, rfl, hk3, HLn, HG, HS3⟩ := hrel
    by_cases hlt3 : k < y1
    case neg =>
      obtain rfl : y1 = k := by omega
      have HF := hidP (layG_all HG.out HN.out)
      go_wp2_with fail
      go_ret2
      exact ⟨aa, na, ca, by rw [HF.out]; rfl, by rw [HF.out]; exact (StrO.row (Sta.t (i := 0) HS3 rfl : StrO _ _ (.slice aa na ca) ys)).2.2, (StrO.row (Sta.t (i := 0) HS3 rfl : StrO _ _ (.slice aa na ca) ys)).2.1, (Sta.made_of (i := 0) HS3 rfl (fun k hk => (own_ge (Sta.t (i := 0) HS3 rfl : StrO _ _ (.slice aa na ca) ys) hk).1)).imp (fun w2 h2 => by rw [HF.out]; exact (StrO.row h2).1), Sta.fin HS3⟩
    have lk3 : (k : Int) < y1 := by omega
    have l03 : (0 : Int) ≤ k := by omega
    have hkl : k < ls.length := by have := HN.out; omega
    obtain ⟨b, o, rfl, hz4⟩ := (Sta.t (i := 1) HS3 rfl :).2 k hkl
    clear hz4
    obtain ⟨x0, hx0⟩ : ∃ y, ls[k].bl = y := ⟨_, rfl⟩
    obtain ⟨x1, hx1⟩ : ∃ y, ls[k].sz = y := ⟨_, rfl⟩
    have HS5 := Sta.imp 1 (fun w' => (MapK w' B l ∧ LayAt w' (some ⟨b, o, none⟩) ls) ∧ w'.cell? ⟨b, o + k * 2, none⟩ = some (.string x0) ∧ w'.cell? ⟨b, o + k * 2 + 1, none⟩ = some (.int .i64 x1)) HS3 rfl (fun w' h => ⟨h, by rw [← hx0]; exact (LayAt.here h.2 k hkl).1, by rw [← hx1]; exact (LayAt.here h.2 k hkl).2⟩)
    have W0 : Hid (x0.size ≤ maxLen) := by have := (HW.out ls[k] (List.getElem_mem hkl)).1; rw [hx0] at this; exact this
    have hb3 : findO l x0 = none ∨ (∃ y, findO l x0 = some y ∧ ¬ (y.size : Int) = x1) ∨ (∃ y, findO l x0 = some y ∧ (y.size : Int) = x1) := by
      cases hf : findO l x0 with
      | none => exact Or.inl rfl
      | some y => by_cases g : (y.size : Int) = x1
                  · exact Or.inr (Or.inr ⟨y, rfl, g⟩)
                  · exact Or.inr (Or.inl ⟨y, rfl, g⟩)
    rcases hb3 with hf | ⟨y, hf, hz⟩ | ⟨y, hf, hz⟩
    · as_aux_lemma =>
      have HO := hidP hf
      have HF := hidP (layG_none hkl hx0 hx1 HG.out hf)
      clear hf
      have tcHS5_1_0 : wl3.cell? ⟨b, o + k * 2, none⟩ = some (.string x0) := (Sta.t (i := 1) HS5 rfl :).2.1
      have tcHS5_1_1 : wl3.cell? ⟨b, o + k * 2 + 1, none⟩ = some (.int .i64 x1) := (Sta.t (i := 1) HS5 rfl :).2.2
      go_wp2_with (first
        | ((with_reducible refine wpList_allocV (w := wl3) (by with_unfolding_all rfl) 85 (by with_unfolding_all rfl) [.string ⟨#[]⟩, .int .i64 0] Tryd.zT_implLayer ?_); intro w6 hA6 hB6 hS6; clear hS6; have HS6 := Sta.new HS5 hA6 hB6 (by simp); clear hA6 hB6; clear tcHS5_1_0 tcHS5_1_1)
        | ((with_reducible refine wpList_storeS (w := w6) (by with_unfolding_all rfl) 85 (.tmp 8) (.tmp 17) (by with_unfolding_all rfl) wl3.heap.size [.string ⟨#[]⟩, .int .i64 0] [.string x0, .int .i64 x1] (by with_unfolding_all rfl) (by with_unfolding_all rfl) (Sta.r (i := 0) HS6 (by with_unfolding_all rfl)) 2 Tryd.sT_implLayer (by with_unfolding_all rfl) (by with_unfolding_all rfl) (by with_unfolding_all rfl) ?_); intro w7 hA7 hO7; have HS7 := Sta.put 0 HS6 rfl hA7 (by simp) hO7; clear hA7 hO7; have cHS7_0_0 : w7.cell? ⟨wl3.heap.size, 0, none⟩ = some (.string x0) := Sta.c (i := 0) HS7 rfl rfl)
        | (go_at_call 44; have n8_0 : MapK w7 B l := (Sta.t (i := 1) HS7 rfl :).1.1; (with_reducible refine (hC1 w7 x0 n8_0 HSo.out W0.out HO.out).mono ?_); rintro r w8 ⟨rfl, hB8⟩; have HS8 := Sta.call HS7 hB8; clear hB8; clear cHS7_0_0))
      go_ret2
      exact ⟨none, 0, 0, by rw [HF.out]; rfl, by rw [HF.out]; rfl, fun _ e => (by cases e), fun w2 _ => by rw [HF.out]; exact fun hl => absurd rfl hl, Sta.fin HS8⟩
    · as_aux_lemma =>
      have HO := hidP hf
      have HF := hidP (layG_size hkl hx0 hx1 HG.out hf hz)
      have d9 : (((y.size : Int)) != x1) = true := by simp [hz]
      clear hf hz
      have tcHS5_1_0 : wl3.cell? ⟨b, o + k * 2, none⟩ = some (.string x0) := (Sta.t (i := 1) HS5 rfl :).2.1
      have tcHS5_1_1 : wl3.cell? ⟨b, o + k * 2 + 1, none⟩ = some (.int .i64 x1) := (Sta.t (i := 1) HS5 rfl :).2.2
      go_wp2_with (first
        | ((with_reducible refine wpList_allocV (w := wl3) (by with_unfolding_all rfl) 85 (by with_unfolding_all rfl) [.string ⟨#[]⟩, .int .i64 0] Tryd.zT_implLayer ?_); intro w9 hA9 hB9 hS9; clear hS9; have HS9 := Sta.new HS5 hA9 hB9 (by simp); clear hA9 hB9; clear tcHS5_1_0 tcHS5_1_1)
        | ((with_reducible refine wpList_storeS (w := w9) (by with_unfolding_all rfl) 85 (.tmp 8) (.tmp 17) (by with_unfolding_all rfl) wl3.heap.size [.string ⟨#[]⟩, .int .i64 0] [.string x0, .int .i64 x1] (by with_unfolding_all rfl) (by with_unfolding_all rfl) (Sta.r (i := 0) HS9 (by with_unfolding_all rfl)) 2 Tryd.sT_implLayer (by with_unfolding_all rfl) (by with_unfolding_all rfl) (by with_unfolding_all rfl) ?_); intro w10 hA10 hO10; have HS10 := Sta.put 0 HS9 rfl hA10 (by simp) hO10; clear hA10 hO10; have cHS10_0_0 : w10.cell? ⟨wl3.heap.size, 0, none⟩ = some (.string x0) := Sta.c (i := 0) HS10 rfl rfl)
        | (go_at_call 44; have n11_0 : MapK w10 B l := (Sta.t (i := 1) HS10 rfl :).1.1; (with_reducible refine (hC2 w10 x0 y n11_0 HSo.out W0.out HO.out).mono ?_); rintro r w11 ⟨rfl, hB11⟩; have HS11 := Sta.call HS10 hB11; clear hB11; clear cHS10_0_0; have cHS11_0_1 : w11.cell? ⟨wl3.heap.size, 1, none⟩ = some (.int .i64 x1) := Sta.c (i := 0) HS11 rfl rfl))
      go_ret2
      exact ⟨none, 0, 0, by rw [HF.out]; rfl, by rw [HF.out]; rfl, fun _ e => (by cases e), fun w2 _ => by rw [HF.out]; exact fun hl => absurd rfl hl, Sta.fin HS11⟩
    · as_aux_lemma =>
      have HO := hidP hf
      have HG2 := hidP (layG_next hkl hx0 hx1 HG.out hf hz)
      have d9 : (((y.size : Int)) != x1) = false := by simp [hz]
      clear hf hz
      have tcHS5_1_0 : wl3.cell? ⟨b, o + k * 2, none⟩ = some (.string x0) := (Sta.t (i := 1) HS5 rfl :).2.1
      have tcHS5_1_1 : wl3.cell? ⟨b, o + k * 2 + 1, none⟩ = some (.int .i64 x1) := (Sta.t (i := 1) HS5 rfl :).2.2
      go_wp2_with (first
        | ((with_reducible refine wpList_allocV (w := wl3) (by with_unfolding_all rfl) 85 (by with_unfolding_all rfl) [.string ⟨#[]⟩, .int .i64 0] Tryd.zT_implLayer ?_); intro w12 hA12 hB12 hS12; clear hS12; have HS12 := Sta.new HS5 hA12 hB12 (by simp); clear hA12 hB12; clear tcHS5_1_0 tcHS5_1_1)
        | ((with_reducible refine wpList_storeS (w := w12) (by with_unfolding_all rfl) 85 (.tmp 8) (.tmp 17) (by with_unfolding_all rfl) wl3.heap.size [.string ⟨#[]⟩, .int .i64 0] [.string x0, .int .i64 x1] (by with_unfolding_all rfl) (by with_unfolding_all rfl) (Sta.r (i := 0) HS12 (by with_unfolding_all rfl)) 2 Tryd.sT_implLayer (by with_unfolding_all rfl) (by with_unfolding_all rfl) (by with_unfolding_all rfl) ?_); intro w13 hA13 hO13; have HS13 := Sta.put 0 HS12 rfl hA13 (by simp) hO13; clear hA13 hO13; have cHS13_0_0 : w13.cell? ⟨wl3.heap.size, 0, none⟩ = some (.string x0) := Sta.c (i := 0) HS13 rfl rfl)
        | (go_at_call 44; have n14_0 : MapK w13 B l := (Sta.t (i := 1) HS13 rfl :).1.1; (with_reducible refine (hC2 w13 x0 y n14_0 HSo.out W0.out HO.out).mono ?_); rintro r w14 ⟨rfl, hB14⟩; have HS14 := Sta.call HS13 hB14; clear hB14; clear cHS13_0_0; have cHS14_0_1 : w14.cell? ⟨wl3.heap.size, 1, none⟩ = some (.int .i64 x1) := Sta.c (i := 0) HS14 rfl rfl)
        | (go_at_call 32; (with_reducible refine (hC3 w14 y).mono ?_); rintro r w15 ⟨rfl, hB15⟩; have HS15 := Sta.call HS14 hB15; clear hB15; clear cHS14_0_1)
        | ((with_reducible refine wpList_buildStr (w := w15) (by with_unfolding_all rfl) (.tmp 34) (by with_unfolding_all rfl) y (by with_unfolding_all rfl) ?_); intro w16 hA16 hB16; have HS16 := Sta.new HS15 hA16 hB16 (by simp); clear hA16 hB16)
        | ((with_reducible refine wpList_appendStr (W := w16) (by with_unfolding_all rfl) (.tmp 32) (.tmp 35) (by with_unfolding_all rfl) w.heap.size (.slice aa na ca) ys y (by with_unfolding_all rfl) (Sta.t (i := 0) HS16 rfl) w15.heap.size (by with_unfolding_all rfl) (Sta.r (i := 0) HS16 (by with_unfolding_all rfl)) (by have := HLn.out; omega) (Sta.size HS16) ?_); intro v17 w17 hO17 hG17 hb17; obtain ⟨a17, m17, c17, hm17, rfl⟩ := StrO.form hO17; have HS17 := Sta.app 0 HS16 rfl (Nat.le_refl _) hO17 hG17 hb17; have Hm17 := hidP hm17; clear hO17 hG17 hb17 hm17))
      have HS18 := Sta.imp 1 (fun w' => MapK w' B l ∧ LayAt w' (some ⟨b, o, none⟩) ls) HS17 rfl (fun w' h => h.1)
      go_roundw
      case rel => exact ⟨k + 1, a17, m17, c17, (ys ++ [y]), by go_num, by go_num, hlt3, by show _ = _; rw [List.length_append, HLn.out]; rfl, HG2.out, Sta.drop 2 0 HS18⟩
      case measure => simp [intOf]; omega
end Go.Proofs.YtchfpiadfmnphaaDoor
namespace Go.Proofs.YtchfpiadfmnphaaDoor
open Go.RowKit
set_option linter.unusedVariables false

set_option maxRecDepth 100000 in
set_option maxHeartbeats 16000000 in
theorem implMat (a : Option Addr) (c n : Nat) (l : List ByteArray) (t : ByteArray) (w : World) (hn : l.length = n) (h : SA w a l) (hm : n ≤ maxLen) (hx : ∀ x ∈ l, x.size ≤ maxLen) (hk : ArrU w 0 keys) (h0 : 0 < w.heap.size) (ht : t.size ≤ maxLen) :
    Calls Tryd.prog 19 #[.agg #[.slice a n c], .string t] w fun r w' => ∃ (nm : ByteArray) (ls : List LayV) (bs : List LabV) (ys : List ByteArray) (a1 : Option Addr) (m1 c1 : Nat) (a2 : Option Addr) (m2 c2 : Nat) (a3 : Option Addr) (m3 c3 : Nat) (cc : Int), r = .returned (.agg #[.string nm, .slice a1 m1 c1, .slice a2 m2 c2, .slice a3 m3 c3, .int .i64 cc]) ∧ ImAns l t nm ls bs ys cc ∧ (m1 = ls.length ∧ m2 = bs.length ∧ m3 = ys.length ∧ ls.length ≤ 10 ∧ bs.length ≤ 10 ∧ ys.length ≤ 10) ∧ ImB a1 a2 a3 w.heap.size w'.heap.size ∧ Made w w' (fun w2 => VR w2 a1 (layL ls).flatten ∧ VR w2 a2 (labL bs).flatten ∧ VR w2 a3 (svl ys)) ∧ Below w.heap.size w w' := by
  have HM := hidP hm
  unfold maxLen at hm
  have HN := hidP hn
  have HX := hidP hx
  have HT := hidP ht
  unfold maxLen at ht
  have hC1 : ∀ w0 (Y : ByteArray), (SA w0 a l ∧ ArrU w0 0 keys ∧ 0 < w0.heap.size) → (l.length = n) → (n ≤ maxLen) → (∀ x ∈ l, x.size ≤ maxLen) → (t.size ≤ maxLen) → (getY l t = Y ∧ getC l t = 0) → Calls Tryd.prog 31 #[.agg #[.slice a n c], .string t] w0 fun r w' => ∃ (B : Nat), r = .returned (.tuple #[.map (some B), .string Y, .int .i64 0]) ∧ Made w0 w' (fun w2 => MapK w2 B l) ∧ Below w0.heap.size w0 w' := fun w0 Y n0 n1 n2 n3 n4 n5 => by rw [← n5.1]; exact (implFetch a c n l t w0 n1 n0.1 n2 n3 n0.2.1 n0.2.2 n4).mono fun r w' ⟨M, h1, h2, h3⟩ => by obtain ⟨_, B, rfl, hM⟩ := h2 n5.2; rw [n5.2] at h1; exact ⟨B, h1, hM, h3⟩
  have hC2 : ∀ w0 (Y : ByteArray), (Y.size ≤ 3000) → Calls Tryd.prog 36 #[.string Y] w0 fun r w' => ∃ (nm : ByteArray) (ls : List LayV) (bs : List LabV) (a1 : Option Addr) (y1 : Nat) (c1 : Nat) (a2 : Option Addr) (y2 : Nat) (c2 : Nat) (c0 : Int), r = .returned (.agg #[.string nm, .slice a1 y1 c1, .slice a2 y2 c2, .int .i64 c0]) ∧ MnAns Y nm ls bs c0 ∧ (y1 = ls.length ∧ y2 = bs.length) ∧ ManB a1 a2 w0.heap.size w'.heap.size ∧ Made w0 w' (fun w2 => VR w2 a1 (layL ls).flatten ∧ VR w2 a2 (labL bs).flatten) ∧ Below w0.heap.size w0 w' := fun w0 Y n0 => implManRd Y w0 (Nat.le_trans n0 (by decide))
  have hC3 : ∀ w0 (Y : ByteArray) (B : Nat) (Z : List ByteArray) (C3 : Int) (nm : ByteArray) (ls : List LayV) (bs : List LabV) (a1 : Option Addr) (y1 : Nat) (c1 : Nat) (a2 : Option Addr) (y2 : Nat) (c2 : Nat) (c0 : Int), (MapK w0 B l) → (VR w0 a1 (layL ls).flatten ∧ VR w0 a2 (labL bs).flatten) → (StOk l) → (MnAns Y nm ls bs c0) → (y1 = ls.length ∧ y2 = bs.length) → (layG l ls = (Z, C3)) → (ManB a1 a2 0 w0.heap.size) → Calls Tryd.prog 37 #[.map (some B), .agg #[.string nm, .slice a1 y1 c1, .slice a2 y2 c2]] w0 fun r w' => ∃ (a3 : Option Addr) (y3 : Nat) (c3 : Nat), r = .returned (.tuple #[.slice a3 y3 c3, .int .i64 C3]) ∧ y3 = Z.length ∧ (∀ ad, a3 = some ad → w0.heap.size ≤ ad.block ∧ ad.block < w'.heap.size) ∧ ((∀ x y, a1 = some x → a3 = some y → x.block ≠ y.block) ∧ (∀ x y, a2 = some x → a3 = some y → x.block ≠ y.block)) ∧ Made w0 w' (fun w2 => VR w2 a3 (svl Z)) ∧ Below w0.heap.size w0 w' := fun w0 Y B Z C3 nm ls bs a1 y1 c1 a2 y2 c2 c0 n0 n1 n2 n3 n4 n5 n6 => by have e := n5; have := (implLayers B l nm a1 c1 y1 ls a2 c2 y2 w0 n0 n2 n4.1.symm n1.1.lay (by have := (mnAns_ok n3).1; omega) (mnAns_ok n3).2.2); rw [e] at this; exact this.mono fun r w' ⟨a3, m3, c3, h1, h2, h3, h4, h5⟩ => ⟨a3, m3, c3, h1, h2, h3, ⟨fun x y e1 e2 e3 => by have h6 := (n6.1 x e1).2; have h7 := (h3 y e2).1; omega, fun x y e1 e2 e3 => by have h6 := (n6.2.1 x e1).2; have h7 := (h3 y e2).1; omega⟩, h4, h5⟩
  have hC4 : ∀ w0 (Y : ByteArray) (C : Int), (SA w0 a l ∧ ArrU w0 0 keys ∧ 0 < w0.heap.size) → (l.length = n) → (n ≤ maxLen) → (∀ x ∈ l, x.size ≤ maxLen) → (t.size ≤ maxLen) → (getY l t = Y ∧ getC l t = C) → Calls Tryd.prog 31 #[.agg #[.slice a n c], .string t] w0 fun r w' => ∃ (M : Value), r = .returned (.tuple #[M, .string Y, .int .i64 C]) ∧ Below w0.heap.size w0 w' := fun w0 Y C n0 n1 n2 n3 n4 n5 => by rw [← n5.1, ← n5.2]; exact (implFetch a c n l t w0 n1 n0.1 n2 n3 n0.2.1 n0.2.2 n4).mono fun r w' ⟨M, h1, h2, h3⟩ => ⟨M, h1, h3⟩
  have HS0 : Hid (Sta [] w [] [⟨fun k => k < w.heap.size, fun w' => SA w' a l ∧ ArrU w' 0 keys ∧ 0 < w'.heap.size⟩] w) := Sta.arg (fun w' => SA w' a l ∧ ArrU w' 0 keys ∧ 0 < w'.heap.size) (fun w' hb => ⟨h.below hb, hk.below hb h0, Nat.lt_of_lt_of_le h0 hb.size⟩)
  clear hn h hx hk h0
  go_enter Tryd.func19, Tryd.ntmps19
  by_cases hg : getC l t = 0
  · as_aux_lemma =>
    obtain ⟨Y, hy⟩ : ∃ Y, getY l t = Y := ⟨_, rfl⟩
    have HA := hidP (show getY l t = Y ∧ getC l t = 0 from ⟨hy, hg⟩)
    have HYs : Hid (Y.size ≤ 3000) := by rw [← hy]; exact (getY_size hg).1
    have HSo := hidP (getY_size hg).2.1
    clear hy hg
    go_wp2_with (first
      | ((with_reducible refine wpList_boxV (w := w) (by with_unfolding_all rfl) 27 (.tmp 0) (by with_unfolding_all rfl) [.slice a n c] (by with_unfolding_all rfl) ?_); intro w1 hA1 hB1 hS1; clear hS1; have HS1 := Sta.new HS0 hA1 hB1 (by simp); clear hA1 hB1)
      | ((with_reducible refine wpList_allocV (w := w1) (by with_unfolding_all rfl) 43 (by with_unfolding_all rfl) [.string ⟨#[]⟩, .slice none 0 0, .slice none 0 0, .slice none 0 0, .int .i64 0] Tryd.zT_implImageOut ?_); intro w2 hA2 hB2 hS2; clear hS2; have HS2 := Sta.new HS1 hA2 hB2 (by simp); clear hA2 hB2)
      | ((with_reducible refine wpList_loadV (w := w2) (by with_unfolding_all rfl) 27 (.tmp 2) (by with_unfolding_all rfl) w.heap.size [.slice a n c] (by with_unfolding_all rfl) (Sta.r (i := 1) HS2 (by with_unfolding_all rfl)) Tryd.uT_implStore 1 Tryd.sT_implStore (by with_unfolding_all rfl) ?_))
      | (go_at_call 31; have n3_0 : SA w2 a l ∧ ArrU w2 0 keys ∧ 0 < w2.heap.size := (Sta.t (i := 0) HS2 rfl :); (with_reducible refine (hC1 w2 Y n3_0 HN.out HM.out HX.out HT.out HA.out).mono ?_); rintro r w3 ⟨B, rfl, hP3, hB3⟩; have HS3 := Sta.made HS2 hB3 hP3; clear hB3 hP3))
    refine (hC2 w3 Y HYs.out).mono ?_
    rintro r w4 ⟨nm, ls, bs, a1, y1, c1, a2, y2, c2, c0, rfl, an, ln, mb, hP4, hB4⟩
    have Han := hidP an
    clear an
    have Hln := hidP ln
    clear ln
    have Hmb := hidP mb
    clear mb
    have HS4 := Sta.made HS3 hB4 hP4
    clear hB4 hP4
    by_cases hc0 : ¬ c0 = 0
    · as_aux_lemma =>
      have d1 : (c0 != 0) = true := by simp [hc0]
      have HC0 := hidP hc0
      clear hc0
      go_wp2_with (first
        | ((with_reducible refine wpList_allocV (w := w4) (by with_unfolding_all rfl) 60 (by with_unfolding_all rfl) [.string ⟨#[]⟩, .slice none 0 0, .slice none 0 0, .int .i64 0] Tryd.zT_implManifestOut ?_); intro w5 hA5 hB5 hS5; clear hS5; have HS5 := Sta.new HS4 hA5 hB5 (by simp); clear hA5 hB5)
        | ((with_reducible refine wpList_storeS (w := w5) (by with_unfolding_all rfl) 60 (.tmp 8) (.tmp 22) (by with_unfolding_all rfl) w4.heap.size [.string ⟨#[]⟩, .slice none 0 0, .slice none 0 0, .int .i64 0] [.string nm, .slice a1 y1 c1, .slice a2 y2 c2, .int .i64 c0] (by with_unfolding_all rfl) (by with_unfolding_all rfl) (Sta.r (i := 0) HS5 (by with_unfolding_all rfl)) 4 Tryd.sT_implManifestOut (by with_unfolding_all rfl) (by with_unfolding_all rfl) (by with_unfolding_all rfl) ?_); intro w6 hA6 hO6; have HS6 := Sta.put 0 HS5 rfl hA6 (by simp) hO6; clear hA6 hO6; have cHS6_0_3 : w6.cell? ⟨w4.heap.size, 3, none⟩ = some (.int .i64 c0) := Sta.c (i := 0) HS6 rfl rfl)
        | ((with_reducible refine wpList_storeS (w := w6) (by with_unfolding_all rfl) 43 (.tmp 4) (.tmp 28) (by with_unfolding_all rfl) w1.heap.size [.string ⟨#[]⟩, .slice none 0 0, .slice none 0 0, .slice none 0 0, .int .i64 0] [.string ⟨#[]⟩, .slice none 0 0, .slice none 0 0, .slice none 0 0, .int .i64 c0] (by with_unfolding_all rfl) (by with_unfolding_all rfl) (Sta.r (i := 1) HS6 (by with_unfolding_all rfl)) 5 Tryd.sT_implImageOut (by with_unfolding_all rfl) (by with_unfolding_all rfl) (by with_unfolding_all rfl) ?_); intro w7 hA7 hO7; have HS7 := Sta.put 1 HS6 rfl hA7 (by simp) hO7; clear hA7 hO7; clear cHS6_0_3))
      exact bodyPost_ret (results_V (t := 43) rfl _ w1.heap.size [.string ⟨#[]⟩, .slice none 0 0, .slice none 0 0, .slice none 0 0, .int .i64 c0] rfl (Sta.r (i := 1) HS7 (by with_unfolding_all rfl)) Tryd.uT_implImageOut 5 Tryd.sT_implImageOut rfl) rfl ⟨⟨#[]⟩, [], [], [], none, 0, 0, none, 0, 0, none, 0, 0, c0, rfl, Or.inr ⟨HA.out.2, nm, ls, bs, c0, by rw [HA.out.1]; exact Han.out, Or.inl ⟨HC0.out, rfl, rfl, rfl, rfl, rfl⟩⟩, ⟨rfl, rfl, rfl, Nat.zero_le _, Nat.zero_le _, Nat.zero_le _⟩, ImB.nil _ _, fun w2 _ => ⟨fun hl => absurd rfl hl, fun hl => absurd rfl hl, fun hl => absurd rfl hl⟩, Sta.fin HS7⟩
    have d1 : (c0 != 0) = false := by simpa using hc0
    have HC0 := hidP (Decidable.not_not.1 hc0)
    clear hc0
    obtain ⟨⟨Z, C3⟩, hZ⟩ : ∃ q, layG l ls = q := ⟨_, rfl⟩
    have HZ := hidP hZ
    clear hZ
    go_wp2_with (first
      | ((with_reducible refine wpList_allocV (w := w4) (by with_unfolding_all rfl) 60 (by with_unfolding_all rfl) [.string ⟨#[]⟩, .slice none 0 0, .slice none 0 0, .int .i64 0] Tryd.zT_implManifestOut ?_); intro w8 hA8 hB8 hS8; clear hS8; have HS8 := Sta.new HS4 hA8 hB8 (by simp); clear hA8 hB8)
      | ((with_reducible refine wpList_storeS (w := w8) (by with_unfolding_all rfl) 60 (.tmp 8) (.tmp 22) (by with_unfolding_all rfl) w4.heap.size [.string ⟨#[]⟩, .slice none 0 0, .slice none 0 0, .int .i64 0] [.string nm, .slice a1 y1 c1, .slice a2 y2 c2, .int .i64 c0] (by with_unfolding_all rfl) (by with_unfolding_all rfl) (Sta.r (i := 0) HS8 (by with_unfolding_all rfl)) 4 Tryd.sT_implManifestOut (by with_unfolding_all rfl) (by with_unfolding_all rfl) (by with_unfolding_all rfl) ?_); intro w9 hA9 hO9; have HS9 := Sta.put 0 HS8 rfl hA9 (by simp) hO9; clear hA9 hO9; have cHS9_0_3 : w9.cell? ⟨w4.heap.size, 3, none⟩ = some (.int .i64 c0) := Sta.c (i := 0) HS9 rfl rfl)
      | ((with_reducible refine wpList_ldS (w := w9) (by with_unfolding_all rfl) 41 (.tmp 31) (by with_unfolding_all rfl) w4.heap.size 0 [.string nm, .slice a1 y1 c1, .slice a2 y2 c2, .int .i64 c0] [.string nm, .slice a1 y1 c1, .slice a2 y2 c2] (by with_unfolding_all rfl) (Sta.r (i := 0) HS9 (by with_unfolding_all rfl)) Tryd.uT_implManifest 3 Tryd.sT_implManifest (by with_unfolding_all rfl) (by with_unfolding_all rfl) ?_)))
    have n10_0 : MapK w9 B l := (Sta.t (i := 1) HS9 rfl :)
    have n10_1 : VR w9 a1 (layL ls).flatten ∧ VR w9 a2 (labL bs).flatten := (Sta.t (i := 0) HS9 rfl :)
    have n10_6 : ManB a1 a2 0 w9.heap.size := (ManB.mono Hmb.out (Nat.zero_le _) (fun k h1 h2 => Sta.lt (i := 0) HS9 rfl k ⟨h1, h2⟩))
    refine (hC3 w9 Y B Z C3 nm ls bs a1 y1 c1 a2 y2 c2 c0 n10_0 n10_1 HSo.out Han.out Hln.out HZ.out n10_6).mono ?_
    rintro r w10 ⟨a3, y3, c3, rfl, l3, b3, q3, hP10, hB10⟩
    have Hl3 := hidP l3
    clear l3
    have Hb3 := hidP b3
    clear b3
    have Hq3 := hidP q3
    clear q3
    have HS10 := Sta.made HS9 hB10 hP10
    clear hB10 hP10
    clear cHS9_0_3
    by_cases hc3 : ¬ C3 = 0
    · as_aux_lemma =>
      have d3 : (C3 != 0) = true := by simp [hc3]
      have HC3 := hidP hc3
      clear hc3
      go_wp2_with (first
        | ((with_reducible refine wpList_storeS (w := w10) (by with_unfolding_all rfl) 43 (.tmp 4) (.tmp 39) (by with_unfolding_all rfl) w1.heap.size [.string ⟨#[]⟩, .slice none 0 0, .slice none 0 0, .slice none 0 0, .int .i64 0] [.string ⟨#[]⟩, .slice none 0 0, .slice none 0 0, .slice none 0 0, .int .i64 C3] (by with_unfolding_all rfl) (by with_unfolding_all rfl) (Sta.r (i := 1) HS10 (by with_unfolding_all rfl)) 5 Tryd.sT_implImageOut (by with_unfolding_all rfl) (by with_unfolding_all rfl) (by with_unfolding_all rfl) ?_); intro w11 hA11 hO11; have HS11 := Sta.put 1 HS10 rfl hA11 (by simp) hO11; clear hA11 hO11))
      exact bodyPost_ret (results_V (t := 43) rfl _ w1.heap.size [.string ⟨#[]⟩, .slice none 0 0, .slice none 0 0, .slice none 0 0, .int .i64 C3] rfl (Sta.r (i := 1) HS11 (by with_unfolding_all rfl)) Tryd.uT_implImageOut 5 Tryd.sT_implImageOut rfl) rfl ⟨⟨#[]⟩, [], [], [], none, 0, 0, none, 0, 0, none, 0, 0, C3, rfl, Or.inr ⟨HA.out.2, nm, ls, bs, c0, by rw [HA.out.1]; exact Han.out, Or.inr (Or.inl ⟨HC0.out, by rw [HZ.out]; exact HC3.out, by rw [HZ.out], rfl, rfl, rfl, rfl⟩)⟩, ⟨rfl, rfl, rfl, Nat.zero_le _, Nat.zero_le _, Nat.zero_le _⟩, ImB.nil _ _, fun w2 _ => ⟨fun hl => absurd rfl hl, fun hl => absurd rfl hl, fun hl => absurd rfl hl⟩, Sta.fin HS11⟩
    have d3 : (C3 != 0) = false := by simpa using hc3
    have HC3 := hidP (Decidable.not_not.1 hc3)
    clear hc3
    go_wp2_with (first
      | ((with_reducible refine wpList_ldS (w := w10) (by with_unfolding_all rfl) 41 (.tmp 40) (by with_unfolding_all rfl) w4.heap.size 0 [.string nm, .slice a1 y1 c1, .slice a2 y2 c2, .int .i64 c0] [.string nm, .slice a1 y1 c1, .slice a2 y2 c2] (by with_unfolding_all rfl) (Sta.r (i := 0) HS10 (by with_unfolding_all rfl)) Tryd.uT_implManifest 3 Tryd.sT_implManifest (by with_unfolding_all rfl) (by with_unfolding_all rfl) ?_))
      | ((with_reducible refine wpList_storeS (w := w10) (by with_unfolding_all rfl) 43 (.tmp 4) (.tmp 43) (by with_unfolding_all rfl) w1.heap.size [.string ⟨#[]⟩, .slice none 0 0, .slice none 0 0, .slice none 0 0, .int .i64 0] [.string nm, .slice a1 y1 c1, .slice a2 y2 c2, .slice a3 y3 c3, .int .i64 0] (by with_unfolding_all rfl) (by with_unfolding_all rfl) (Sta.r (i := 1) HS10 (by with_unfolding_all rfl)) 5 Tryd.sT_implImageOut (by with_unfolding_all rfl) (by with_unfolding_all rfl) (by with_unfolding_all rfl) ?_); intro w12 hA12 hO12; have HS12 := Sta.put 1 HS10 rfl hA12 (by simp) hO12; clear hA12 hO12))
    exact bodyPost_ret (results_V (t := 43) rfl _ w1.heap.size [.string nm, .slice a1 y1 c1, .slice a2 y2 c2, .slice a3 y3 c3, .int .i64 0] rfl (Sta.r (i := 1) HS12 (by with_unfolding_all rfl)) Tryd.uT_implImageOut 5 Tryd.sT_implImageOut rfl) rfl ⟨nm, ls, bs, Z, a1, y1, c1, a2, y2, c2, a3, y3, c3, 0, rfl, Or.inr ⟨HA.out.2, nm, ls, bs, c0, by rw [HA.out.1]; exact Han.out, Or.inr (Or.inr ⟨HC0.out, by rw [HZ.out]; exact HC3.out, rfl, rfl, rfl, rfl, by rw [HZ.out]⟩)⟩, ⟨Hln.out.1, Hln.out.2, Hl3.out, (mnAns_ok Han.out).1, (mnAns_ok Han.out).2.1, layG_len HZ.out (mnAns_ok Han.out).1⟩, ⟨fun ad e => ⟨Nat.le_trans (Sta.size HS3) (Hmb.out.1 ad e).1, Sta.lt (i := 1) HS12 rfl _ (Hmb.out.1 ad e)⟩, fun ad e => ⟨Nat.le_trans (Sta.size HS3) (Hmb.out.2.1 ad e).1, Sta.lt (i := 1) HS12 rfl _ (Hmb.out.2.1 ad e)⟩, fun ad e => ⟨Nat.le_trans (Sta.size HS9) (Hb3.out ad e).1, Sta.lt (i := 0) HS12 rfl _ (Hb3.out ad e)⟩, Hmb.out.2.2, Hq3.out.1, Hq3.out.2⟩, (Made.and' (Sta.made_of (i := 1) HS12 rfl (fun k hk => Nat.le_trans (Sta.size HS3) hk.1)) (Sta.made_of (i := 0) HS12 rfl (fun k hk => Nat.le_trans (Sta.size HS9) hk.1))).imp (fun w2 h2 => ⟨h2.1.1, h2.1.2, h2.2⟩), Sta.fin HS12⟩
  · as_aux_lemma =>
    obtain ⟨Y, hy⟩ : ∃ Y, getY l t = Y := ⟨_, rfl⟩
    obtain ⟨C, hc⟩ : ∃ C, getC l t = C := ⟨_, rfl⟩
    have HA := hidP (show getY l t = Y ∧ getC l t = C from ⟨hy, hc⟩)
    have HG := hidP hg
    have d0 : (C != 0) = true := by rw [hc] at hg; simp [hg]
    clear hy hc hg
    go_wp2_with (first
      | ((with_reducible refine wpList_boxV (w := w) (by with_unfolding_all rfl) 27 (.tmp 0) (by with_unfolding_all rfl) [.slice a n c] (by with_unfolding_all rfl) ?_); intro w13 hA13 hB13 hS13; clear hS13; have HS13 := Sta.new HS0 hA13 hB13 (by simp); clear hA13 hB13)
      | ((with_reducible refine wpList_allocV (w := w13) (by with_unfolding_all rfl) 43 (by with_unfolding_all rfl) [.string ⟨#[]⟩, .slice none 0 0, .slice none 0 0, .slice none 0 0, .int .i64 0] Tryd.zT_implImageOut ?_); intro w14 hA14 hB14 hS14; clear hS14; have HS14 := Sta.new HS13 hA14 hB14 (by simp); clear hA14 hB14)
      | ((with_reducible refine wpList_loadV (w := w14) (by with_unfolding_all rfl) 27 (.tmp 2) (by with_unfolding_all rfl) w.heap.size [.slice a n c] (by with_unfolding_all rfl) (Sta.r (i := 1) HS14 (by with_unfolding_all rfl)) Tryd.uT_implStore 1 Tryd.sT_implStore (by with_unfolding_all rfl) ?_))
      | (go_at_call 31; have n15_0 : SA w14 a l ∧ ArrU w14 0 keys ∧ 0 < w14.heap.size := (Sta.t (i := 0) HS14 rfl :); (with_reducible refine (hC4 w14 Y C n15_0 HN.out HM.out HX.out HT.out HA.out).mono ?_); rintro r w15 ⟨M, rfl, hB15⟩; have HS15 := Sta.call HS14 hB15; clear hB15)
      | ((with_reducible refine wpList_storeS (w := w15) (by with_unfolding_all rfl) 43 (.tmp 4) (.tmp 20) (by with_unfolding_all rfl) w13.heap.size [.string ⟨#[]⟩, .slice none 0 0, .slice none 0 0, .slice none 0 0, .int .i64 0] [.string ⟨#[]⟩, .slice none 0 0, .slice none 0 0, .slice none 0 0, .int .i64 C] (by with_unfolding_all rfl) (by with_unfolding_all rfl) (Sta.r (i := 0) HS15 (by with_unfolding_all rfl)) 5 Tryd.sT_implImageOut (by with_unfolding_all rfl) (by with_unfolding_all rfl) (by with_unfolding_all rfl) ?_); intro w16 hA16 hO16; have HS16 := Sta.put 0 HS15 rfl hA16 (by simp) hO16; clear hA16 hO16))
    exact bodyPost_ret (results_V (t := 43) rfl _ w13.heap.size [.string ⟨#[]⟩, .slice none 0 0, .slice none 0 0, .slice none 0 0, .int .i64 C] rfl (Sta.r (i := 0) HS16 (by with_unfolding_all rfl)) Tryd.uT_implImageOut 5 Tryd.sT_implImageOut rfl) rfl ⟨⟨#[]⟩, [], [], [], none, 0, 0, none, 0, 0, none, 0, 0, C, rfl, Or.inl ⟨HG.out, HA.out.2.symm, rfl, rfl, rfl, rfl⟩, ⟨rfl, rfl, rfl, Nat.zero_le _, Nat.zero_le _, Nat.zero_le _⟩, ImB.nil _ _, fun w2 _ => ⟨fun hl => absurd rfl hl, fun hl => absurd rfl hl, fun hl => absurd rfl hl⟩, Sta.fin HS16⟩
end Go.Proofs.YtchfpiadfmnphaaDoor
namespace Go.Proofs.YtchfpiadfmnphaaDoor
open Go.RowKit
set_option linter.unusedVariables false

set_option maxRecDepth 100000 in
set_option maxHeartbeats 16000000 in
theorem specImg (a : Option Addr) (c n : Nat) (l : List ByteArray) (t : ByteArray) (w : World) (hn : l.length = n) (h : SA w a l) (hm : n ≤ maxLen) (hx : ∀ x ∈ l, x.size ≤ maxLen) (ht : t.size ≤ maxLen) (hg : ¬ 20000 < t.size) (hs : StOk l) :
    Calls Tryd.prog 35 #[.agg #[.slice a n c], .string t] w fun r w' => ∃ (nm : ByteArray) (ls : List LayV) (bs : List LabV) (ys : List ByteArray) (a1 : Option Addr) (m1 c1 : Nat) (a2 : Option Addr) (m2 c2 : Nat) (a3 : Option Addr) (m3 c3 : Nat) (cc : Int), r = .returned (.agg #[.string nm, .slice a1 m1 c1, .slice a2 m2 c2, .slice a3 m3 c3, .int .i64 cc]) ∧ ImAns l t nm ls bs ys cc ∧ (m1 = ls.length ∧ m2 = bs.length ∧ m3 = ys.length ∧ ls.length ≤ 10 ∧ bs.length ≤ 10 ∧ ys.length ≤ 10) ∧ Made w w' (fun w2 => LayAt w2 a1 ls ∧ LabAt w2 a2 bs ∧ SA w2 a3 ys) ∧ Below w.heap.size w w' := by
  have HM := hidP hm
  unfold maxLen at hm
  have HN := hidP hn
  have HX := hidP hx
  have HT := hidP ht
  unfold maxLen at ht
  have HSo := hidP hs
  have hC1 : ∀ w0, (SA w0 a l) → (l.length = n) → (n ≤ maxLen) → (∀ x ∈ l, x.size ≤ maxLen) → (t.size ≤ maxLen) → (findO l t = none) → Calls Tryd.prog 30 #[.agg #[.slice a n c], .string t] w0 fun r w' => r = .returned (.tuple #[.string ⟨#[]⟩, .bool false]) ∧ Below w0.heap.size w0 w' := fun w0 n0 n1 n2 n3 n4 n5 => by have := specFind a c n l t w0 n1 n0 n2 n3 n4; rw [n5] at this; exact this
  have hC2 : ∀ w0 (X : ByteArray), (SA w0 a l) → (l.length = n) → (n ≤ maxLen) → (∀ x ∈ l, x.size ≤ maxLen) → (t.size ≤ maxLen) → (findO l t = some X) → Calls Tryd.prog 30 #[.agg #[.slice a n c], .string t] w0 fun r w' => r = .returned (.tuple #[.string X, .bool true]) ∧ Below w0.heap.size w0 w' := fun w0 X n0 n1 n2 n3 n4 n5 => by have := specFind a c n l t w0 n1 n0 n2 n3 n4; rw [n5] at this; exact this
  have hC3 : ∀ w0 (X : ByteArray), (X.size ≤ 3000) → Calls Tryd.prog 51 #[.string X] w0 fun r w' => ∃ (nm : ByteArray) (ls : List LayV) (bs : List LabV) (a1 : Option Addr) (y1 : Nat) (c1 : Nat) (a2 : Option Addr) (y2 : Nat) (c2 : Nat) (ok : Bool), r = .returned (.tuple #[.agg #[.string nm, .slice a1 y1 c1, .slice a2 y2 c2], .bool ok]) ∧ (y1 = ls.length ∧ y2 = bs.length ∧ ls.length ≤ 10 ∧ bs.length ≤ 10) ∧ ((ok = true ∧ ManOkT X nm ls bs) ∨ (ok = false ∧ ¬ ∃ nm ls bs, ManOkT X nm ls bs)) ∧ Made w0 w' (fun w' => LayAt w' a1 ls ∧ LabAt w' a2 bs) ∧ Below w0.heap.size w0 w' := fun w0 X n0 => specMan X w0 (Nat.le_trans n0 (by decide))
  have hC4 : ∀ w0 (x0 : ByteArray), (SA w0 a l) → (l.length = n) → (n ≤ maxLen) → (∀ x ∈ l, x.size ≤ maxLen) → (x0.size ≤ maxLen) → (findO l x0 = none) → Calls Tryd.prog 30 #[.agg #[.slice a n c], .string x0] w0 fun r w' => r = .returned (.tuple #[.string ⟨#[]⟩, .bool false]) ∧ Below w0.heap.size w0 w' := fun w0 x0 n0 n1 n2 n3 n4 n5 => by have := specFind a c n l x0 w0 n1 n0 n2 n3 n4; rw [n5] at this; exact this
  have hC5 : ∀ w0 (x0 : ByteArray) (y : ByteArray), (SA w0 a l) → (l.length = n) → (n ≤ maxLen) → (∀ x ∈ l, x.size ≤ maxLen) → (x0.size ≤ maxLen) → (findO l x0 = some y) → Calls Tryd.prog 30 #[.agg #[.slice a n c], .string x0] w0 fun r w' => r = .returned (.tuple #[.string y, .bool true]) ∧ Below w0.heap.size w0 w' := fun w0 x0 y n0 n1 n2 n3 n4 n5 => by have := specFind a c n l x0 w0 n1 n0 n2 n3 n4; rw [n5] at this; exact this
  have HS0 : Hid (Sta [] w [] [⟨fun k => k < w.heap.size, fun w' => SA w' a l⟩] w) := Sta.arg (fun w' => SA w' a l) (fun w' hb => h.below hb)
  clear hn h hx
  go_enter Tryd.func35, Tryd.ntmps35
  have hb2 : findO l t = none ∨ ∃ X, findO l t = some X := by cases findO l t <;> simp
  rcases hb2 with hf | ⟨X, hf⟩
  · as_aux_lemma =>
    have HO0 := hidP hf
    have HC := hidP (getC_none hg hs hf)
    clear hf hs
    go_wp2_with (first
      | ((with_reducible refine wpList_boxV (w := w) (by with_unfolding_all rfl) 27 (.tmp 0) (by with_unfolding_all rfl) [.slice a n c] (by with_unfolding_all rfl) ?_); intro w1 hA1 hB1 hS1; clear hS1; have HS1 := Sta.new HS0 hA1 hB1 (by simp); clear hA1 hB1)
      | ((with_reducible refine wpList_allocV (w := w1) (by with_unfolding_all rfl) 43 (by with_unfolding_all rfl) [.string ⟨#[]⟩, .slice none 0 0, .slice none 0 0, .slice none 0 0, .int .i64 0] Tryd.zT_implImageOut ?_); intro w2 hA2 hB2 hS2; clear hS2; have HS2 := Sta.new HS1 hA2 hB2 (by simp); clear hA2 hB2)
      | ((with_reducible refine wpList_loadV (w := w2) (by with_unfolding_all rfl) 27 (.tmp 2) (by with_unfolding_all rfl) w.heap.size [.slice a n c] (by with_unfolding_all rfl) (Sta.r (i := 1) HS2 (by with_unfolding_all rfl)) Tryd.uT_implStore 1 Tryd.sT_implStore (by with_unfolding_all rfl) ?_))
      | (go_at_call 30; have n3_0 : SA w2 a l := (Sta.t (i := 0) HS2 rfl :); (with_reducible refine (hC1 w2 n3_0 HN.out HM.out HX.out HT.out HO0.out).mono ?_); rintro r w3 ⟨rfl, hB3⟩; have HS3 := Sta.call HS2 hB3; clear hB3)
      | ((with_reducible refine wpList_storeS (w := w3) (by with_unfolding_all rfl) 43 (.tmp 4) (.tmp 21) (by with_unfolding_all rfl) w1.heap.size [.string ⟨#[]⟩, .slice none 0 0, .slice none 0 0, .slice none 0 0, .int .i64 0] [.string ⟨#[]⟩, .slice none 0 0, .slice none 0 0, .slice none 0 0, .int .i64 9] (by with_unfolding_all rfl) (by with_unfolding_all rfl) (Sta.r (i := 0) HS3 (by with_unfolding_all rfl)) 5 Tryd.sT_implImageOut (by with_unfolding_all rfl) (by with_unfolding_all rfl) (by with_unfolding_all rfl) ?_); intro w4 hA4 hO4; have HS4 := Sta.put 0 HS3 rfl hA4 (by simp) hO4; clear hA4 hO4))
    exact bodyPost_ret (results_V (t := 43) rfl _ w1.heap.size [.string ⟨#[]⟩, .slice none 0 0, .slice none 0 0, .slice none 0 0, .int .i64 9] rfl (Sta.r (i := 0) HS4 (by with_unfolding_all rfl)) Tryd.uT_implImageOut 5 Tryd.sT_implImageOut rfl) rfl ⟨⟨#[]⟩, [], [], [], none, 0, 0, none, 0, 0, none, 0, 0, 9, rfl, Or.inl ⟨by rw [HC.out]; decide, HC.out.symm, rfl, rfl, rfl, rfl⟩, ⟨rfl, rfl, rfl, Nat.zero_le _, Nat.zero_le _, Nat.zero_le _⟩, fun w2 _ => ⟨fun i hi => absurd hi (Nat.not_lt_zero _), fun i hi => absurd hi (Nat.not_lt_zero _), SA.nil _ _⟩, Sta.fin HS4⟩
  · as_aux_lemma =>
    have HO0 := hidP hf
    have HC := hidP (getC_yes hg hs hf)
    have HXs : Hid (X.size ≤ 3000) := by rw [← HC.out.2]; exact (getY_size HC.out.1).1
    clear hf hs
    go_wp2_with (first
      | ((with_reducible refine wpList_boxV (w := w) (by with_unfolding_all rfl) 27 (.tmp 0) (by with_unfolding_all rfl) [.slice a n c] (by with_unfolding_all rfl) ?_); intro w5 hA5 hB5 hS5; clear hS5; have HS5 := Sta.new HS0 hA5 hB5 (by simp); clear hA5 hB5)
      | ((with_reducible refine wpList_allocV (w := w5) (by with_unfolding_all rfl) 43 (by with_unfolding_all rfl) [.string ⟨#[]⟩, .slice none 0 0, .slice none 0 0, .slice none 0 0, .int .i64 0] Tryd.zT_implImageOut ?_); intro w6 hA6 hB6 hS6; clear hS6; have HS6 := Sta.new HS5 hA6 hB6 (by simp); clear hA6 hB6)
      | ((with_reducible refine wpList_loadV (w := w6) (by with_unfolding_all rfl) 27 (.tmp 2) (by with_unfolding_all rfl) w.heap.size [.slice a n c] (by with_unfolding_all rfl) (Sta.r (i := 1) HS6 (by with_unfolding_all rfl)) Tryd.uT_implStore 1 Tryd.sT_implStore (by with_unfolding_all rfl) ?_))
      | (go_at_call 30; have n7_0 : SA w6 a l := (Sta.t (i := 0) HS6 rfl :); (with_reducible refine (hC2 w6 X n7_0 HN.out HM.out HX.out HT.out HO0.out).mono ?_); rintro r w7 ⟨rfl, hB7⟩; have HS7 := Sta.call HS6 hB7; clear hB7))
    refine (hC3 w7 X HXs.out).mono ?_
    rintro r w8 ⟨nm, ls, bs, a1, y1, c1, a2, y2, c2, ok, rfl, ln, an, hP8, hB8⟩
    have Hln := hidP ln
    clear ln
    have Han := hidP an
    clear an
    have HS8 := Sta.made HS7 hB8 hP8
    clear hB8 hP8
    by_cases hok : ok = false
    · as_aux_lemma =>
      have HA3 : Hid (MnAns X ⟨#[]⟩ [] [] 3) := Or.inr (Or.inr ⟨by have := HXs.out; omega, (Han.out.resolve_left (fun h => by rw [hok] at h; cases h.1)).2, rfl, rfl, rfl, rfl⟩)
      go_wp2_with (first
        | ((with_reducible refine wpList_allocV (w := w8) (by with_unfolding_all rfl) 41 (by with_unfolding_all rfl) [.string ⟨#[]⟩, .slice none 0 0, .slice none 0 0] Tryd.zT_implManifest ?_); intro w9 hA9 hB9 hS9; clear hS9; have HS9 := Sta.new HS8 hA9 hB9 (by simp); clear hA9 hB9)
        | ((with_reducible refine wpList_storeS (w := w9) (by with_unfolding_all rfl) 41 (.tmp 7) (.tmp 25) (by with_unfolding_all rfl) w8.heap.size [.string ⟨#[]⟩, .slice none 0 0, .slice none 0 0] [.string nm, .slice a1 y1 c1, .slice a2 y2 c2] (by with_unfolding_all rfl) (by with_unfolding_all rfl) (Sta.r (i := 0) HS9 (by with_unfolding_all rfl)) 3 Tryd.sT_implManifest (by with_unfolding_all rfl) (by with_unfolding_all rfl) (by with_unfolding_all rfl) ?_); intro w10 hA10 hO10; have HS10 := Sta.put 0 HS9 rfl hA10 (by simp) hO10; clear hA10 hO10)
        | ((with_reducible refine wpList_storeS (w := w10) (by with_unfolding_all rfl) 43 (.tmp 4) (.tmp 29) (by with_unfolding_all rfl) w5.heap.size [.string ⟨#[]⟩, .slice none 0 0, .slice none 0 0, .slice none 0 0, .int .i64 0] [.string ⟨#[]⟩, .slice none 0 0, .slice none 0 0, .slice none 0 0, .int .i64 3] (by with_unfolding_all rfl) (by with_unfolding_all rfl) (Sta.r (i := 1) HS10 (by with_unfolding_all rfl)) 5 Tryd.sT_implImageOut (by with_unfolding_all rfl) (by with_unfolding_all rfl) (by with_unfolding_all rfl) ?_); intro w11 hA11 hO11; have HS11 := Sta.put 1 HS10 rfl hA11 (by simp) hO11; clear hA11 hO11))
      exact bodyPost_ret (results_V (t := 43) rfl _ w5.heap.size [.string ⟨#[]⟩, .slice none 0 0, .slice none 0 0, .slice none 0 0, .int .i64 3] rfl (Sta.r (i := 1) HS11 (by with_unfolding_all rfl)) Tryd.uT_implImageOut 5 Tryd.sT_implImageOut rfl) rfl ⟨⟨#[]⟩, [], [], [], none, 0, 0, none, 0, 0, none, 0, 0, 3, rfl, Or.inr ⟨HC.out.1, ⟨#[]⟩, [], [], 3, by rw [HC.out.2]; exact HA3.out, Or.inl ⟨by decide, rfl, rfl, rfl, rfl, rfl⟩⟩, ⟨rfl, rfl, rfl, Nat.zero_le _, Nat.zero_le _, Nat.zero_le _⟩, fun w2 _ => ⟨fun i hi => absurd hi (Nat.not_lt_zero _), fun i hi => absurd hi (Nat.not_lt_zero _), SA.nil _ _⟩, Sta.fin HS11⟩
    have hok' : ok = true := by simpa using hok
    have HA0 : Hid (MnAns X nm ls bs 0) := Or.inr (Or.inl ⟨by have := HXs.out; omega, (Han.out.resolve_right (fun h => hok h.1)).2, rfl⟩)
    have HN1 : Hid (ls.length = y1) := Hln.out.1.symm
    have HM0 := hidP (Sta.size HS7)
    go_wp2_with (first
      | ((with_reducible refine wpList_allocV (w := w8) (by with_unfolding_all rfl) 41 (by with_unfolding_all rfl) [.string ⟨#[]⟩, .slice none 0 0, .slice none 0 0] Tryd.zT_implManifest ?_); intro w12 hA12 hB12 hS12; clear hS12; have HS12 := Sta.new HS8 hA12 hB12 (by simp); clear hA12 hB12)
      | ((with_reducible refine wpList_storeS (w := w12) (by with_unfolding_all rfl) 41 (.tmp 7) (.tmp 25) (by with_unfolding_all rfl) w8.heap.size [.string ⟨#[]⟩, .slice none 0 0, .slice none 0 0] [.string nm, .slice a1 y1 c1, .slice a2 y2 c2] (by with_unfolding_all rfl) (by with_unfolding_all rfl) (Sta.r (i := 0) HS12 (by with_unfolding_all rfl)) 3 Tryd.sT_implManifest (by with_unfolding_all rfl) (by with_unfolding_all rfl) (by with_unfolding_all rfl) ?_); intro w13 hA13 hO13; have HS13 := Sta.put 0 HS12 rfl hA13 (by simp) hO13; clear hA13 hO13)
      | ((with_reducible refine wpList_loadV (w := w13) (by with_unfolding_all rfl) 41 (.tmp 7) (by with_unfolding_all rfl) w8.heap.size [.string nm, .slice a1 y1 c1, .slice a2 y2 c2] (by with_unfolding_all rfl) (Sta.r (i := 0) HS13 (by with_unfolding_all rfl)) Tryd.uT_implManifest 3 Tryd.sT_implManifest (by with_unfolding_all rfl) ?_))
      | ((with_reducible refine wpList_allocV (w := w13) (by with_unfolding_all rfl) 43 (by with_unfolding_all rfl) [.string ⟨#[]⟩, .slice none 0 0, .slice none 0 0, .slice none 0 0, .int .i64 0] Tryd.zT_implImageOut ?_); intro w14 hA14 hB14 hS14; clear hS14; have HS14 := Sta.new HS13 hA14 hB14 (by simp); clear hA14 hB14)
      | ((with_reducible refine wpList_storeS (w := w14) (by with_unfolding_all rfl) 43 (.tmp 9) (.tmp 31) (by with_unfolding_all rfl) w13.heap.size [.string ⟨#[]⟩, .slice none 0 0, .slice none 0 0, .slice none 0 0, .int .i64 0] [.string nm, .slice a1 y1 c1, .slice a2 y2 c2, .slice none 0 0, .int .i64 0] (by with_unfolding_all rfl) (by with_unfolding_all rfl) (Sta.r (i := 0) HS14 (by with_unfolding_all rfl)) 5 Tryd.sT_implImageOut (by with_unfolding_all rfl) (by with_unfolding_all rfl) (by with_unfolding_all rfl) ?_); intro w15 hA15 hO15; have HS15 := Sta.put 0 HS14 rfl hA15 (by simp) hO15; clear hA15 hO15))
    have HS16 : Hid (Sta [] w [(w13.heap.size, [.string nm, .slice a1 y1 c1, .slice a2 y2 c2, .slice none 0 0, .int .i64 0]), (w8.heap.size, [.string nm, .slice a1 y1 c1, .slice a2 y2 c2]), (w5.heap.size, [.string ⟨#[]⟩, .slice none 0 0, .slice none 0 0, .slice none 0 0, .int .i64 0]), (w.heap.size, [.slice a n c])] [⟨fun k => (Value.slice none 0 0).ownBlock = some k, fun w' => StrO w' w.heap.size (.slice none 0 0) ([])⟩, ⟨fun k => w7.heap.size ≤ k ∧ k < w8.heap.size, fun w' => LayAt w' a1 ls ∧ LabAt w' a2 bs⟩, ⟨fun k => k < w.heap.size, fun w' => SA w' a l⟩] w15) := Sta.own0 w.heap.size 9 1 HS15
    go_wp2_with fail
    go_loopw [10] (fun v0 wr => ∃ (k : Nat) (aa : Option Addr) (na : Nat) (ca : Nat) (ys : List ByteArray), v0 = .int .i64 (k : Int) ∧ k ≤ y1 ∧ Hid (ys.length = k) ∧ Hid (layG l (ls.take k) = (ys, 0)) ∧ Hid (Sta [] w [(w13.heap.size, [.string nm, .slice a1 y1 c1, .slice a2 y2 c2, .slice aa na ca, .int .i64 0]), (w8.heap.size, [.string nm, .slice a1 y1 c1, .slice a2 y2 c2]), (w5.heap.size, [.string ⟨#[]⟩, .slice none 0 0, .slice none 0 0, .slice none 0 0, .int .i64 0]), (w.heap.size, [.slice a n c])] [⟨fun k => (Value.slice aa na ca).ownBlock = some k, fun w' => StrO w' w.heap.size (.slice aa na ca) ys⟩, ⟨fun k => w7.heap.size ≤ k ∧ k < w8.heap.size, fun w' => LayAt w' a1 ls ∧ LabAt w' a2 bs⟩, ⟨fun k => k < w.heap.size, fun w' => SA w' a l⟩] wr)) (fun v0 _ => y1 - (intOf v0).toNat)
    case atStart => exact ⟨0, none, 0, 0, [], rfl, Nat.zero_le _, rfl, rfl, HS16⟩
    case round =>
      rename Go.World => wl17
      clear HS16
      obtain ⟨k, aa, na, ca, ys, rfl, hk17, HLn, HG, HS17⟩ := hrel
      by_cases hlt17 : k < y1
      case neg =>
        obtain rfl : y1 = k := by omega
        have HF := hidP (layG_all HG.out HN1.out)
        have cHS17_1_1 : wl17.cell? ⟨w8.heap.size, 1, none⟩ = some (.slice a1 y1 c1) := Sta.c (i := 1) HS17 rfl rfl
        go_wp2_with (first
          | ((with_reducible refine wpList_loadV (w := wl17) (by with_unfolding_all rfl) 43 (.tmp 9) (by with_unfolding_all rfl) w13.heap.size [.string nm, .slice a1 y1 c1, .slice a2 y2 c2, .slice aa na ca, .int .i64 0] (by with_unfolding_all rfl) (Sta.r (i := 0) HS17 (by with_unfolding_all rfl)) Tryd.uT_implImageOut 5 Tryd.sT_implImageOut (by with_unfolding_all rfl) ?_))
          | ((with_reducible refine wpList_storeS (w := wl17) (by with_unfolding_all rfl) 43 (.tmp 4) (.tmp 69) (by with_unfolding_all rfl) w5.heap.size [.string ⟨#[]⟩, .slice none 0 0, .slice none 0 0, .slice none 0 0, .int .i64 0] [.string nm, .slice a1 y1 c1, .slice a2 y2 c2, .slice aa na ca, .int .i64 0] (by with_unfolding_all rfl) (by with_unfolding_all rfl) (Sta.r (i := 2) HS17 (by with_unfolding_all rfl)) 5 Tryd.sT_implImageOut (by with_unfolding_all rfl) (by with_unfolding_all rfl) (by with_unfolding_all rfl) ?_); intro w18 hA18 hO18; have HS18 := Sta.put 2 HS17 rfl hA18 (by simp) hO18; clear hA18 hO18; clear cHS17_1_1))
        exact bodyPost_ret (results_V (t := 43) rfl _ w5.heap.size [.string nm, .slice a1 y1 c1, .slice a2 y2 c2, .slice aa na ca, .int .i64 0] rfl (Sta.r (i := 2) HS18 (by with_unfolding_all rfl)) Tryd.uT_implImageOut 5 Tryd.sT_implImageOut rfl) rfl ⟨nm, ls, bs, ys, a1, y1, c1, a2, y2, c2, aa, na, ca, 0, rfl, Or.inr ⟨HC.out.1, nm, ls, bs, 0, by rw [HC.out.2]; exact HA0.out, Or.inr (Or.inr ⟨rfl, by rw [HF.out], rfl, rfl, rfl, rfl, by rw [HF.out]⟩)⟩, ⟨Hln.out.1, Hln.out.2.1, (StrO.row (Sta.t (i := 0) HS18 rfl : StrO _ _ (.slice aa na ca) ys)).2.2, Hln.out.2.2.1, Hln.out.2.2.2, by have := HLn.out; have := HN1.out; have := Hln.out.2.2.1; omega⟩, (Made.and' (Sta.made_of (i := 1) HS18 rfl (fun k hk => Nat.le_trans HM0.out hk.1)) (Sta.made_of (i := 0) HS18 rfl (fun k hk => (own_ge (Sta.t (i := 0) HS18 rfl : StrO _ _ (.slice aa na ca) ys) hk).1))).imp (fun w2 h2 => ⟨h2.1.1, h2.1.2, (StrO.row h2.2).1.sa⟩), Sta.fin HS18⟩
      have lk17 : (k : Int) < y1 := by omega
      have l017 : (0 : Int) ≤ k := by omega
      have y10 : y1 ≤ 10 := by have := HN1.out; have := Hln.out.2.2.1; omega
      have hkl : k < ls.length := by have := HN1.out; omega
      obtain ⟨b, o, rfl, hz19⟩ := (Sta.t (i := 1) HS17 rfl :).1 k hkl
      clear hz19
      obtain ⟨x0, hx0⟩ : ∃ y, ls[k].bl = y := ⟨_, rfl⟩
      obtain ⟨x1, hx1⟩ : ∃ y, ls[k].sz = y := ⟨_, rfl⟩
      have HS20 := Sta.imp 1 (fun w' => (LayAt w' (some ⟨b, o, none⟩) ls ∧ LabAt w' a2 bs) ∧ w'.cell? ⟨b, o + k * 2, none⟩ = some (.string x0) ∧ w'.cell? ⟨b, o + k * 2 + 1, none⟩ = some (.int .i64 x1)) HS17 rfl (fun w' h => ⟨h, by rw [← hx0]; exact (LayAt.here h.1 k hkl).1, by rw [← hx1]; exact (LayAt.here h.1 k hkl).2⟩)
      have W0 : Hid (x0.size ≤ maxLen) := by have := ((mnAns_ok HA0.out).2.2 ls[k] (List.getElem_mem hkl)).1; rw [hx0] at this; exact this
      have hb3 : findO l x0 = none ∨ (∃ y, findO l x0 = some y ∧ ¬ (y.size : Int) = x1) ∨ (∃ y, findO l x0 = some y ∧ (y.size : Int) = x1) := by
        cases hf : findO l x0 with
        | none => exact Or.inl rfl
        | some y => by_cases g : (y.size : Int) = x1
                    · exact Or.inr (Or.inr ⟨y, rfl, g⟩)
                    · exact Or.inr (Or.inl ⟨y, rfl, g⟩)
      rcases hb3 with hf | ⟨y, hf, hz⟩ | ⟨y, hf, hz⟩
      · as_aux_lemma =>
        have HO := hidP hf
        have HF := hidP (layG_none hkl hx0 hx1 HG.out hf)
        clear hf
        have cHS20_1_1 : wl17.cell? ⟨w8.heap.size, 1, none⟩ = some (.slice (some ⟨b, o, none⟩) y1 c1) := Sta.c (i := 1) HS20 rfl rfl
        go_wp2_with fail
        have HS21 := Sta.drew HS20
        clear cHS20_1_1
        go_region_held3 (fun w' => w'.cell? ⟨w.heap.size, 0, none⟩ = some (.slice a n c) ∧ w'.cell? ⟨w8.heap.size, 1, none⟩ = some (.slice (some ⟨b, o, none⟩) y1 c1) ∧ w'.cell? ⟨b, o + k * 2, none⟩ = some (.string x0) ∧ Hid (Sta [] w [(w13.heap.size, [.string nm, .slice (some ⟨b, o, none⟩) y1 c1, .slice a2 y2 c2, .slice aa na ca, .int .i64 0]), (w8.heap.size, [.string nm, .slice (some ⟨b, o, none⟩) y1 c1, .slice a2 y2 c2]), (w5.heap.size, [.string ⟨#[]⟩, .slice none 0 0, .slice none 0 0, .slice none 0 0, .int .i64 0]), (w.heap.size, [.slice a n c])] [⟨fun k => (Value.slice aa na ca).ownBlock = some k, fun w' => StrO w' w.heap.size (.slice aa na ca) ys⟩, ⟨fun k => w7.heap.size ≤ k ∧ k < w8.heap.size, fun w' => (LayAt w' (some ⟨b, o, none⟩) ls ∧ LabAt w' a2 bs) ∧ w'.cell? ⟨b, o + k * 2, none⟩ = some (.string x0) ∧ w'.cell? ⟨b, o + k * 2 + 1, none⟩ = some (.int .i64 x1)⟩, ⟨fun k => k < w.heap.size, fun w' => SA w' a l⟩] w'))
          (first | exact ⟨Sta.c (i := 3) (HS21) rfl rfl, Sta.c (i := 1) (HS21) rfl rfl, (Sta.t (i := 1) (HS21) rfl :).2.1, (HS21)⟩ | exact ⟨Sta.c (i := 3) (Sta.call (HS21) hB22) rfl rfl, Sta.c (i := 1) (Sta.call (HS21) hB22) rfl rfl, (Sta.t (i := 1) (Sta.call (HS21) hB22) rfl :).2.1, (Sta.call (HS21) hB22)⟩)
          (first
            | (go_at_call 30; have n22_0 : SA wl17.drew a l := (Sta.t (i := 2) (HS21) rfl :); (with_reducible refine (hC4 _ x0 n22_0 HN.out HM.out HX.out W0.out HO.out).mono ?_); rintro r w22 ⟨rfl, hB22⟩))
        all_goals
          have HS23 := Sta.call (HS21) hB22
          go_wp2_with (first
            | ((with_reducible refine wpList_storeS (w := w22) (by with_unfolding_all rfl) 43 (.tmp 4) (.tmp 52) (by with_unfolding_all rfl) w5.heap.size [.string ⟨#[]⟩, .slice none 0 0, .slice none 0 0, .slice none 0 0, .int .i64 0] [.string ⟨#[]⟩, .slice none 0 0, .slice none 0 0, .slice none 0 0, .int .i64 9] (by with_unfolding_all rfl) (by with_unfolding_all rfl) (Sta.r (i := 2) HS23 (by with_unfolding_all rfl)) 5 Tryd.sT_implImageOut (by with_unfolding_all rfl) (by with_unfolding_all rfl) (by with_unfolding_all rfl) ?_); intro w24 hA24 hO24; have HS24 := Sta.put 2 HS23 rfl hA24 (by simp) hO24; clear hA24 hO24))
          exact bodyPost_ret (results_V (t := 43) rfl _ w5.heap.size [.string ⟨#[]⟩, .slice none 0 0, .slice none 0 0, .slice none 0 0, .int .i64 9] rfl (Sta.r (i := 2) HS24 (by with_unfolding_all rfl)) Tryd.uT_implImageOut 5 Tryd.sT_implImageOut rfl) rfl ⟨⟨#[]⟩, [], [], [], none, 0, 0, none, 0, 0, none, 0, 0, 9, rfl, Or.inr ⟨HC.out.1, nm, ls, bs, 0, by rw [HC.out.2]; exact HA0.out, Or.inr (Or.inl ⟨rfl, by rw [HF.out]; decide, by rw [HF.out], rfl, rfl, rfl, rfl⟩)⟩, ⟨rfl, rfl, rfl, Nat.zero_le _, Nat.zero_le _, Nat.zero_le _⟩, fun w2 _ => ⟨fun i hi => absurd hi (Nat.not_lt_zero _), fun i hi => absurd hi (Nat.not_lt_zero _), SA.nil _ _⟩, Sta.fin HS24⟩
      · as_aux_lemma =>
        have HO := hidP hf
        have HF := hidP (layG_size hkl hx0 hx1 HG.out hf hz)
        have d9 : (((y.size : Int)) != x1) = true := by simp [hz]
        clear hf hz
        have cHS20_1_1 : wl17.cell? ⟨w8.heap.size, 1, none⟩ = some (.slice (some ⟨b, o, none⟩) y1 c1) := Sta.c (i := 1) HS20 rfl rfl
        go_wp2_with fail
        have HS25 := Sta.drew HS20
        clear cHS20_1_1
        go_region_held3 (fun w' => w'.cell? ⟨w.heap.size, 0, none⟩ = some (.slice a n c) ∧ w'.cell? ⟨w8.heap.size, 1, none⟩ = some (.slice (some ⟨b, o, none⟩) y1 c1) ∧ w'.cell? ⟨b, o + k * 2, none⟩ = some (.string x0) ∧ Hid (Sta [] w [(w13.heap.size, [.string nm, .slice (some ⟨b, o, none⟩) y1 c1, .slice a2 y2 c2, .slice aa na ca, .int .i64 0]), (w8.heap.size, [.string nm, .slice (some ⟨b, o, none⟩) y1 c1, .slice a2 y2 c2]), (w5.heap.size, [.string ⟨#[]⟩, .slice none 0 0, .slice none 0 0, .slice none 0 0, .int .i64 0]), (w.heap.size, [.slice a n c])] [⟨fun k => (Value.slice aa na ca).ownBlock = some k, fun w' => StrO w' w.heap.size (.slice aa na ca) ys⟩, ⟨fun k => w7.heap.size ≤ k ∧ k < w8.heap.size, fun w' => (LayAt w' (some ⟨b, o, none⟩) ls ∧ LabAt w' a2 bs) ∧ w'.cell? ⟨b, o + k * 2, none⟩ = some (.string x0) ∧ w'.cell? ⟨b, o + k * 2 + 1, none⟩ = some (.int .i64 x1)⟩, ⟨fun k => k < w.heap.size, fun w' => SA w' a l⟩] w'))
          (first | exact ⟨Sta.c (i := 3) (HS25) rfl rfl, Sta.c (i := 1) (HS25) rfl rfl, (Sta.t (i := 1) (HS25) rfl :).2.1, (HS25)⟩ | exact ⟨Sta.c (i := 3) (Sta.call (HS25) hB26) rfl rfl, Sta.c (i := 1) (Sta.call (HS25) hB26) rfl rfl, (Sta.t (i := 1) (Sta.call (HS25) hB26) rfl :).2.1, (Sta.call (HS25) hB26)⟩)
          (first
            | (go_at_call 30; have n26_0 : SA wl17.drew a l := (Sta.t (i := 2) (HS25) rfl :); (with_reducible refine (hC5 _ x0 y n26_0 HN.out HM.out HX.out W0.out HO.out).mono ?_); rintro r w26 ⟨rfl, hB26⟩))
        all_goals
          have HS27 := Sta.call (HS25) hB26
          have cHS27_1_1 : w26.cell? ⟨w8.heap.size, 1, none⟩ = some (.slice (some ⟨b, o, none⟩) y1 c1) := Sta.c (i := 1) HS27 rfl rfl
          have tcHS27_1_1 : w26.cell? ⟨b, o + k * 2 + 1, none⟩ = some (.int .i64 x1) := (Sta.t (i := 1) HS27 rfl :).2.2
          go_wp2_with (first
            | ((with_reducible refine wpList_storeS (w := w26) (by with_unfolding_all rfl) 43 (.tmp 4) (.tmp 62) (by with_unfolding_all rfl) w5.heap.size [.string ⟨#[]⟩, .slice none 0 0, .slice none 0 0, .slice none 0 0, .int .i64 0] [.string ⟨#[]⟩, .slice none 0 0, .slice none 0 0, .slice none 0 0, .int .i64 5] (by with_unfolding_all rfl) (by with_unfolding_all rfl) (Sta.r (i := 2) HS27 (by with_unfolding_all rfl)) 5 Tryd.sT_implImageOut (by with_unfolding_all rfl) (by with_unfolding_all rfl) (by with_unfolding_all rfl) ?_); intro w28 hA28 hO28; have HS28 := Sta.put 2 HS27 rfl hA28 (by simp) hO28; clear hA28 hO28; clear cHS27_1_1 tcHS27_1_1))
          exact bodyPost_ret (results_V (t := 43) rfl _ w5.heap.size [.string ⟨#[]⟩, .slice none 0 0, .slice none 0 0, .slice none 0 0, .int .i64 5] rfl (Sta.r (i := 2) HS28 (by with_unfolding_all rfl)) Tryd.uT_implImageOut 5 Tryd.sT_implImageOut rfl) rfl ⟨⟨#[]⟩, [], [], [], none, 0, 0, none, 0, 0, none, 0, 0, 5, rfl, Or.inr ⟨HC.out.1, nm, ls, bs, 0, by rw [HC.out.2]; exact HA0.out, Or.inr (Or.inl ⟨rfl, by rw [HF.out]; decide, by rw [HF.out], rfl, rfl, rfl, rfl⟩)⟩, ⟨rfl, rfl, rfl, Nat.zero_le _, Nat.zero_le _, Nat.zero_le _⟩, fun w2 _ => ⟨fun i hi => absurd hi (Nat.not_lt_zero _), fun i hi => absurd hi (Nat.not_lt_zero _), SA.nil _ _⟩, Sta.fin HS28⟩
      · as_aux_lemma =>
        have HO := hidP hf
        have HG2 := hidP (layG_next hkl hx0 hx1 HG.out hf hz)
        have d9 : (((y.size : Int)) != x1) = false := by simp [hz]
        clear hf hz
        have cHS20_1_1 : wl17.cell? ⟨w8.heap.size, 1, none⟩ = some (.slice (some ⟨b, o, none⟩) y1 c1) := Sta.c (i := 1) HS20 rfl rfl
        go_wp2_with fail
        have HS29 := Sta.drew HS20
        clear cHS20_1_1
        go_region_held3 (fun w' => w'.cell? ⟨w.heap.size, 0, none⟩ = some (.slice a n c) ∧ w'.cell? ⟨w8.heap.size, 1, none⟩ = some (.slice (some ⟨b, o, none⟩) y1 c1) ∧ w'.cell? ⟨b, o + k * 2, none⟩ = some (.string x0) ∧ Hid (Sta [] w [(w13.heap.size, [.string nm, .slice (some ⟨b, o, none⟩) y1 c1, .slice a2 y2 c2, .slice aa na ca, .int .i64 0]), (w8.heap.size, [.string nm, .slice (some ⟨b, o, none⟩) y1 c1, .slice a2 y2 c2]), (w5.heap.size, [.string ⟨#[]⟩, .slice none 0 0, .slice none 0 0, .slice none 0 0, .int .i64 0]), (w.heap.size, [.slice a n c])] [⟨fun k => (Value.slice aa na ca).ownBlock = some k, fun w' => StrO w' w.heap.size (.slice aa na ca) ys⟩, ⟨fun k => w7.heap.size ≤ k ∧ k < w8.heap.size, fun w' => (LayAt w' (some ⟨b, o, none⟩) ls ∧ LabAt w' a2 bs) ∧ w'.cell? ⟨b, o + k * 2, none⟩ = some (.string x0) ∧ w'.cell? ⟨b, o + k * 2 + 1, none⟩ = some (.int .i64 x1)⟩, ⟨fun k => k < w.heap.size, fun w' => SA w' a l⟩] w'))
          (first | exact ⟨Sta.c (i := 3) (HS29) rfl rfl, Sta.c (i := 1) (HS29) rfl rfl, (Sta.t (i := 1) (HS29) rfl :).2.1, (HS29)⟩ | exact ⟨Sta.c (i := 3) (Sta.call (HS29) hB30) rfl rfl, Sta.c (i := 1) (Sta.call (HS29) hB30) rfl rfl, (Sta.t (i := 1) (Sta.call (HS29) hB30) rfl :).2.1, (Sta.call (HS29) hB30)⟩)
          (first
            | (go_at_call 30; have n30_0 : SA wl17.drew a l := (Sta.t (i := 2) (HS29) rfl :); (with_reducible refine (hC5 _ x0 y n30_0 HN.out HM.out HX.out W0.out HO.out).mono ?_); rintro r w30 ⟨rfl, hB30⟩))
        all_goals
          have HS31 := Sta.call (HS29) hB30
          have cHS31_1_1 : w30.cell? ⟨w8.heap.size, 1, none⟩ = some (.slice (some ⟨b, o, none⟩) y1 c1) := Sta.c (i := 1) HS31 rfl rfl
          have tcHS31_1_1 : w30.cell? ⟨b, o + k * 2 + 1, none⟩ = some (.int .i64 x1) := (Sta.t (i := 1) HS31 rfl :).2.2
          have cHS31_0_3 : w30.cell? ⟨w13.heap.size, 3, none⟩ = some (.slice aa na ca) := Sta.c (i := 0) HS31 rfl rfl
          go_wp2_with (first
            | ((with_reducible refine wpList_buildStr (w := w30) (by with_unfolding_all rfl) (.tmp 65) (by with_unfolding_all rfl) y (by with_unfolding_all rfl) ?_); intro w32 hA32 hB32; have HS32 := Sta.new HS31 hA32 hB32 (by simp); clear hA32 hB32; clear cHS31_1_1 tcHS31_1_1 cHS31_0_3)
            | ((with_reducible refine wpList_appendStr (W := w32) (by with_unfolding_all rfl) (.tmp 64) (.tmp 66) (by with_unfolding_all rfl) w.heap.size (.slice aa na ca) ys y (by with_unfolding_all rfl) (Sta.t (i := 0) HS32 rfl) w30.heap.size (by with_unfolding_all rfl) (Sta.r (i := 0) HS32 (by with_unfolding_all rfl)) (by have := HLn.out; have := HN1.out; have := Hln.out.2.2.1; omega) (Sta.size HS32) ?_); intro v33 w33 hO33 hG33 hb33; obtain ⟨a33, m33, c33, hm33, rfl⟩ := StrO.form hO33; have HS33 := Sta.app 0 HS32 rfl (Nat.le_refl _) hO33 hG33 hb33; have Hm33 := hidP hm33; clear hO33 hG33 hb33 hm33)
            | ((with_reducible refine wpList_cellS (w := w33) (by with_unfolding_all rfl) 22 (.tmp 68) (.tmp 67) (by with_unfolding_all rfl) w13.heap.size 3 [.string nm, .slice (some ⟨b, o, none⟩) y1 c1, .slice a2 y2 c2, .slice aa na ca, .int .i64 0] [.string nm, .slice (some ⟨b, o, none⟩) y1 c1, .slice a2 y2 c2, .slice a33 m33 c33, .int .i64 0] (.slice a33 m33 c33) (by with_unfolding_all rfl) (by with_unfolding_all rfl) (by with_unfolding_all rfl) Tryd.s1_slstring (Sta.r (i := 1) HS33 (by with_unfolding_all rfl)) (by simp) (by with_unfolding_all rfl) ?_); intro w34 hA34 hO34; have HS34 := Sta.put 1 HS33 rfl hA34 (by simp) hO34; clear hA34 hO34))
          have HS35 := Sta.imp 1 (fun w' => LayAt w' (some ⟨b, o, none⟩) ls ∧ LabAt w' a2 bs) HS34 rfl (fun w' h => h.1)
          go_roundw
          case rel => exact ⟨k + 1, a33, m33, c33, (ys ++ [y]), by go_num, hlt17, by show _ = _; rw [List.length_append, HLn.out]; rfl, HG2.out, Sta.drop 1 0 HS35⟩
          case measure => simp [intOf]; omega
set_option maxRecDepth 100000 in
set_option maxHeartbeats 8000000 in
theorem specMat (a : Option Addr) (c n : Nat) (l : List ByteArray) (t : ByteArray) (w : World) (hn : l.length = n) (h : SA w a l) (hm : n ≤ maxLen) (hx : ∀ x ∈ l, x.size ≤ maxLen) (ht : t.size ≤ maxLen) :
    Calls Tryd.prog 18 #[.agg #[.slice a n c], .string t] w fun r w' => ∃ (nm : ByteArray) (ls : List LayV) (bs : List LabV) (ys : List ByteArray) (a1 : Option Addr) (m1 c1 : Nat) (a2 : Option Addr) (m2 c2 : Nat) (a3 : Option Addr) (m3 c3 : Nat) (cc : Int), r = .returned (.agg #[.string nm, .slice a1 m1 c1, .slice a2 m2 c2, .slice a3 m3 c3, .int .i64 cc]) ∧ ImAns l t nm ls bs ys cc ∧ (m1 = ls.length ∧ m2 = bs.length ∧ m3 = ys.length ∧ ls.length ≤ 10 ∧ bs.length ≤ 10 ∧ ys.length ≤ 10) ∧ Made w w' (fun w2 => LayAt w2 a1 ls ∧ LabAt w2 a2 bs ∧ SA w2 a3 ys) ∧ Below w.heap.size w w' := by
  have HM := hidP hm
  unfold maxLen at hm
  have HN := hidP hn
  have HX := hidP hx
  have HT := hidP ht
  unfold maxLen at ht
  have hC1 : ∀ w0, (SA w0 a l) → (l.length = n) → (n ≤ maxLen) → (∀ x ∈ l, x.size ≤ maxLen) → (¬ StOk l) → Calls Tryd.prog 8 #[.agg #[.slice a n c]] w0 fun r w' => r = .returned (.bool false) ∧ Below w0.heap.size w0 w' := fun w0 n0 n1 n2 n3 n4 => by rw [← boolP_no n4]; exact specStRight a c n l w0 n1 n0 n2 n3
  have hC2 : ∀ w0, (SA w0 a l) → (l.length = n) → (n ≤ maxLen) → (∀ x ∈ l, x.size ≤ maxLen) → (StOk l) → Calls Tryd.prog 8 #[.agg #[.slice a n c]] w0 fun r w' => r = .returned (.bool true) ∧ Below w0.heap.size w0 w' := fun w0 n0 n1 n2 n3 n4 => by rw [← boolP_yes n4]; exact specStRight a c n l w0 n1 n0 n2 n3
  have hC3 : ∀ w0, (SA w0 a l) → (l.length = n) → (n ≤ maxLen) → (∀ x ∈ l, x.size ≤ maxLen) → (t.size ≤ maxLen) → (¬ 20000 < t.size) → (StOk l) → Calls Tryd.prog 35 #[.agg #[.slice a n c], .string t] w0 fun r w' => ∃ (nm : ByteArray) (ls : List LayV) (bs : List LabV) (ys : List ByteArray) (a1 : Option Addr) (y1 : Nat) (c1 : Nat) (a2 : Option Addr) (y2 : Nat) (c2 : Nat) (a3 : Option Addr) (y3 : Nat) (c3 : Nat) (cc : Int), r = .returned (.agg #[.string nm, .slice a1 y1 c1, .slice a2 y2 c2, .slice a3 y3 c3, .int .i64 cc]) ∧ ImAns l t nm ls bs ys cc ∧ (y1 = ls.length ∧ y2 = bs.length ∧ y3 = ys.length ∧ ls.length ≤ 10 ∧ bs.length ≤ 10 ∧ ys.length ≤ 10) ∧ Made w0 w' (fun w2 => LayAt w2 a1 ls ∧ LabAt w2 a2 bs ∧ SA w2 a3 ys) ∧ Below w0.heap.size w0 w' := fun w0 n0 n1 n2 n3 n4 n5 n6 => specImg a c n l t w0 n1 n0 n2 n3 n4 n5 n6
  have HS0 : Hid (Sta [] w [] [⟨fun k => k < w.heap.size, fun w' => SA w' a l⟩] w) := Sta.arg (fun w' => SA w' a l) (fun w' hb => h.below hb)
  clear hn h hx
  go_enter Tryd.func18, Tryd.ntmps18
  have hb3 : 20000 < t.size ∨ (¬ 20000 < t.size ∧ ¬ StOk l) ∨ (¬ 20000 < t.size ∧ StOk l) := by by_cases g : 20000 < t.size <;> by_cases q : StOk l <;> simp [g, q]
  rcases hb3 with g | ⟨g, q⟩ | ⟨g, q⟩
  · as_aux_lemma =>
    have d5 : decide ((20000 : Int) < (t.size : Int)) = true := decide_eq_true (by omega)
    have HC := hidP (getC_big (l := l) g)
    go_wp2_with (first
      | ((with_reducible refine wpList_boxV (w := w) (by with_unfolding_all rfl) 27 (.tmp 0) (by with_unfolding_all rfl) [.slice a n c] (by with_unfolding_all rfl) ?_); intro w1 hA1 hB1 hS1; clear hS1; have HS1 := Sta.new HS0 hA1 hB1 (by simp); clear hA1 hB1)
      | ((with_reducible refine wpList_allocV (w := w1) (by with_unfolding_all rfl) 43 (by with_unfolding_all rfl) [.string ⟨#[]⟩, .slice none 0 0, .slice none 0 0, .slice none 0 0, .int .i64 0] Tryd.zT_implImageOut ?_); intro w2 hA2 hB2 hS2; clear hS2; have HS2 := Sta.new HS1 hA2 hB2 (by simp); clear hA2 hB2)
      | ((with_reducible refine wpList_storeS (w := w2) (by with_unfolding_all rfl) 43 (.tmp 4) (.tmp 8) (by with_unfolding_all rfl) w1.heap.size [.string ⟨#[]⟩, .slice none 0 0, .slice none 0 0, .slice none 0 0, .int .i64 0] [.string ⟨#[]⟩, .slice none 0 0, .slice none 0 0, .slice none 0 0, .int .i64 2] (by with_unfolding_all rfl) (by with_unfolding_all rfl) (Sta.r (i := 0) HS2 (by with_unfolding_all rfl)) 5 Tryd.sT_implImageOut (by with_unfolding_all rfl) (by with_unfolding_all rfl) (by with_unfolding_all rfl) ?_); intro w3 hA3 hO3; have HS3 := Sta.put 0 HS2 rfl hA3 (by simp) hO3; clear hA3 hO3))
    exact bodyPost_ret (results_V (t := 43) rfl _ w1.heap.size [.string ⟨#[]⟩, .slice none 0 0, .slice none 0 0, .slice none 0 0, .int .i64 2] rfl (Sta.r (i := 0) HS3 (by with_unfolding_all rfl)) Tryd.uT_implImageOut 5 Tryd.sT_implImageOut rfl) rfl ⟨⟨#[]⟩, [], [], [], none, 0, 0, none, 0, 0, none, 0, 0, 2, rfl, Or.inl ⟨by rw [HC.out]; decide, HC.out.symm, rfl, rfl, rfl, rfl⟩, ⟨rfl, rfl, rfl, Nat.zero_le _, Nat.zero_le _, Nat.zero_le _⟩, fun w2 _ => ⟨fun i hi => absurd hi (Nat.not_lt_zero _), fun i hi => absurd hi (Nat.not_lt_zero _), SA.nil _ _⟩, Sta.fin HS3⟩
  · as_aux_lemma =>
    have d5 : decide ((20000 : Int) < (t.size : Int)) = false := decide_eq_false (by omega)
    have HC := hidP (getC_bad g q)
    have HSx := hidP q
    clear q
    go_wp2_with (first
      | ((with_reducible refine wpList_boxV (w := w) (by with_unfolding_all rfl) 27 (.tmp 0) (by with_unfolding_all rfl) [.slice a n c] (by with_unfolding_all rfl) ?_); intro w4 hA4 hB4 hS4; clear hS4; have HS4 := Sta.new HS0 hA4 hB4 (by simp); clear hA4 hB4)
      | ((with_reducible refine wpList_allocV (w := w4) (by with_unfolding_all rfl) 43 (by with_unfolding_all rfl) [.string ⟨#[]⟩, .slice none 0 0, .slice none 0 0, .slice none 0 0, .int .i64 0] Tryd.zT_implImageOut ?_); intro w5 hA5 hB5 hS5; clear hS5; have HS5 := Sta.new HS4 hA5 hB5 (by simp); clear hA5 hB5)
      | ((with_reducible refine wpList_loadV (w := w5) (by with_unfolding_all rfl) 27 (.tmp 2) (by with_unfolding_all rfl) w.heap.size [.slice a n c] (by with_unfolding_all rfl) (Sta.r (i := 1) HS5 (by with_unfolding_all rfl)) Tryd.uT_implStore 1 Tryd.sT_implStore (by with_unfolding_all rfl) ?_))
      | (go_at_call 8; have n6_0 : SA w5 a l := (Sta.t (i := 0) HS5 rfl :); (with_reducible refine (hC1 w5 n6_0 HN.out HM.out HX.out HSx.out).mono ?_); rintro r w6 ⟨rfl, hB6⟩; have HS6 := Sta.call HS5 hB6; clear hB6)
      | ((with_reducible refine wpList_storeS (w := w6) (by with_unfolding_all rfl) 43 (.tmp 4) (.tmp 12) (by with_unfolding_all rfl) w4.heap.size [.string ⟨#[]⟩, .slice none 0 0, .slice none 0 0, .slice none 0 0, .int .i64 0] [.string ⟨#[]⟩, .slice none 0 0, .slice none 0 0, .slice none 0 0, .int .i64 1] (by with_unfolding_all rfl) (by with_unfolding_all rfl) (Sta.r (i := 0) HS6 (by with_unfolding_all rfl)) 5 Tryd.sT_implImageOut (by with_unfolding_all rfl) (by with_unfolding_all rfl) (by with_unfolding_all rfl) ?_); intro w7 hA7 hO7; have HS7 := Sta.put 0 HS6 rfl hA7 (by simp) hO7; clear hA7 hO7))
    exact bodyPost_ret (results_V (t := 43) rfl _ w4.heap.size [.string ⟨#[]⟩, .slice none 0 0, .slice none 0 0, .slice none 0 0, .int .i64 1] rfl (Sta.r (i := 0) HS7 (by with_unfolding_all rfl)) Tryd.uT_implImageOut 5 Tryd.sT_implImageOut rfl) rfl ⟨⟨#[]⟩, [], [], [], none, 0, 0, none, 0, 0, none, 0, 0, 1, rfl, Or.inl ⟨by rw [HC.out]; decide, HC.out.symm, rfl, rfl, rfl, rfl⟩, ⟨rfl, rfl, rfl, Nat.zero_le _, Nat.zero_le _, Nat.zero_le _⟩, fun w2 _ => ⟨fun i hi => absurd hi (Nat.not_lt_zero _), fun i hi => absurd hi (Nat.not_lt_zero _), SA.nil _ _⟩, Sta.fin HS7⟩
  · as_aux_lemma =>
    have d5 : decide ((20000 : Int) < (t.size : Int)) = false := decide_eq_false (by omega)
    have HBg := hidP g
    have HSx := hidP q
    clear q
    go_wp2_with (first
      | ((with_reducible refine wpList_boxV (w := w) (by with_unfolding_all rfl) 27 (.tmp 0) (by with_unfolding_all rfl) [.slice a n c] (by with_unfolding_all rfl) ?_); intro w8 hA8 hB8 hS8; clear hS8; have HS8 := Sta.new HS0 hA8 hB8 (by simp); clear hA8 hB8)
      | ((with_reducible refine wpList_allocV (w := w8) (by with_unfolding_all rfl) 43 (by with_unfolding_all rfl) [.string ⟨#[]⟩, .slice none 0 0, .slice none 0 0, .slice none 0 0, .int .i64 0] Tryd.zT_implImageOut ?_); intro w9 hA9 hB9 hS9; clear hS9; have HS9 := Sta.new HS8 hA9 hB9 (by simp); clear hA9 hB9)
      | ((with_reducible refine wpList_loadV (w := w9) (by with_unfolding_all rfl) 27 (.tmp 2) (by with_unfolding_all rfl) w.heap.size [.slice a n c] (by with_unfolding_all rfl) (Sta.r (i := 1) HS9 (by with_unfolding_all rfl)) Tryd.uT_implStore 1 Tryd.sT_implStore (by with_unfolding_all rfl) ?_))
      | (go_at_call 8; have n10_0 : SA w9 a l := (Sta.t (i := 0) HS9 rfl :); (with_reducible refine (hC2 w9 n10_0 HN.out HM.out HX.out HSx.out).mono ?_); rintro r w10 ⟨rfl, hB10⟩; have HS10 := Sta.call HS9 hB10; clear hB10)
      | ((with_reducible refine wpList_loadV (w := w10) (by with_unfolding_all rfl) 27 (.tmp 2) (by with_unfolding_all rfl) w.heap.size [.slice a n c] (by with_unfolding_all rfl) (Sta.r (i := 1) HS10 (by with_unfolding_all rfl)) Tryd.uT_implStore 1 Tryd.sT_implStore (by with_unfolding_all rfl) ?_))
      | (go_at_call 35; have n11_0 : SA w10 a l := (Sta.t (i := 0) HS10 rfl :); (with_reducible refine (hC3 w10 n11_0 HN.out HM.out HX.out HT.out HBg.out HSx.out).mono ?_); rintro r w11 ⟨nm, ls, bs, ys, a1, y1, c1, a2, y2, c2, a3, y3, c3, cc, rfl, an, ln, hP11, hB11⟩; have Han := hidP an; clear an; have Hln := hidP ln; clear ln; have HS11 := Sta.made HS10 hB11 hP11; clear hB11 hP11)
      | ((with_reducible refine wpList_storeS (w := w11) (by with_unfolding_all rfl) 43 (.tmp 4) (.tmp 15) (by with_unfolding_all rfl) w8.heap.size [.string ⟨#[]⟩, .slice none 0 0, .slice none 0 0, .slice none 0 0, .int .i64 0] [.string nm, .slice a1 y1 c1, .slice a2 y2 c2, .slice a3 y3 c3, .int .i64 cc] (by with_unfolding_all rfl) (by with_unfolding_all rfl) (Sta.r (i := 0) HS11 (by with_unfolding_all rfl)) 5 Tryd.sT_implImageOut (by with_unfolding_all rfl) (by with_unfolding_all rfl) (by with_unfolding_all rfl) ?_); intro w12 hA12 hO12; have HS12 := Sta.put 0 HS11 rfl hA12 (by simp) hO12; clear hA12 hO12))
    exact bodyPost_ret (results_V (t := 43) rfl _ w8.heap.size [.string nm, .slice a1 y1 c1, .slice a2 y2 c2, .slice a3 y3 c3, .int .i64 cc] rfl (Sta.r (i := 0) HS12 (by with_unfolding_all rfl)) Tryd.uT_implImageOut 5 Tryd.sT_implImageOut rfl) rfl ⟨nm, ls, bs, ys, a1, y1, c1, a2, y2, c2, a3, y3, c3, cc, rfl, Han.out, Hln.out, Sta.made_of (i := 0) HS12 rfl (fun k hk => Nat.le_trans (Sta.size HS10) hk.1), Sta.fin HS12⟩
end Go.Proofs.YtchfpiadfmnphaaDoor
namespace Go.Proofs.YtchfpiadfmnphaaDoor
open Go.RowKit
set_option linter.unusedVariables false

set_option maxRecDepth 100000 in
set_option maxHeartbeats 4000000 in
theorem eqIm (nm : ByteArray) (ls : List LayV) (bs : List LabV) (ys : List ByteArray) (cc : Int) (a1 a2 a3 : Option Addr) (c1 c2 c3 : Nat) (b1 b2 b3 : Option Addr) (d1 d2 d3 : Nat) (w : World) (h1 : LayAt w a1 ls ∧ LabAt w a2 bs ∧ SA w a3 ys) (h2 : LayAt w b1 ls ∧ LabAt w b2 bs ∧ SA w b3 ys) (h10 : ls.length ≤ 10 ∧ bs.length ≤ 10 ∧ ys.length ≤ 10) :
    Calls Tryd.prog 20 #[.agg #[.string nm, .slice a1 ls.length c1, .slice a2 bs.length c2, .slice a3 ys.length c3, .int .i64 cc], .agg #[.string nm, .slice b1 ls.length d1, .slice b2 bs.length d2, .slice b3 ys.length d3, .int .i64 cc]] w fun r w' => r = .returned (.bool true) ∧ Below w.heap.size w w' := by
  have hcc : (cc != cc) = false := by simp
  have hC1 : ∀ w0, (LayAt w0 a1 ls ∧ LabAt w0 a2 bs ∧ SA w0 a3 ys) → (LayAt w0 b1 ls ∧ LabAt w0 b2 bs ∧ SA w0 b3 ys) → Calls Tryd.prog 38 #[.agg #[.string nm, .slice a1 ls.length c1, .slice a2 bs.length c2], .agg #[.string nm, .slice b1 ls.length d1, .slice b2 bs.length d2]] w0 fun r w' => r = .returned (.bool true) ∧ Below w0.heap.size w0 w' := fun w0 n0 n1 => eqMan nm a1 b1 c1 d1 ls.length ls a2 b2 c2 d2 bs.length bs w0 rfl n0.1 n1.1 (by unfold maxLen; omega) rfl n0.2.1 n1.2.1 (by unfold maxLen; omega)
  have hC2 : ∀ w0, (LayAt w0 a1 ls ∧ LabAt w0 a2 bs ∧ SA w0 a3 ys) → (LayAt w0 b1 ls ∧ LabAt w0 b2 bs ∧ SA w0 b3 ys) → Calls Tryd.prog 29 #[.slice a3 ys.length c3, .slice b3 ys.length d3] w0 fun r w' => r = .returned (.bool true) ∧ Below w0.heap.size w0 w' := fun w0 n0 n1 => by have := eqS_any a3 b3 c3 d3 ys ys w0 n0.2.2 n1.2.2 (by omega) (by omega); rw [decide_eq_true rfl] at this; exact this
  have HS0 : Hid (Sta [] w [] [⟨fun k => k < w.heap.size, fun w' => (LayAt w' a1 ls ∧ LabAt w' a2 bs ∧ SA w' a3 ys) ∧ LayAt w' b1 ls ∧ LabAt w' b2 bs ∧ SA w' b3 ys⟩] w) := Sta.arg (fun w' => (LayAt w' a1 ls ∧ LabAt w' a2 bs ∧ SA w' a3 ys) ∧ LayAt w' b1 ls ∧ LabAt w' b2 bs ∧ SA w' b3 ys) (fun w' hb => ⟨⟨h1.1.below hb, h1.2.1.below hb, h1.2.2.below hb⟩, h2.1.below hb, h2.2.1.below hb, h2.2.2.below hb⟩)
  clear h1 h2
  go_enter Tryd.func20, Tryd.ntmps20
  go_wp2_with (first
    | ((with_reducible refine wpList_boxV (w := w) (by with_unfolding_all rfl) 43 (.tmp 0) (by with_unfolding_all rfl) [.string nm, .slice a1 ls.length c1, .slice a2 bs.length c2, .slice a3 ys.length c3, .int .i64 cc] (by with_unfolding_all rfl) ?_); intro w1 hA1 hB1 hS1; clear hS1; have HS1 := Sta.new HS0 hA1 hB1 (by simp); clear hA1 hB1)
    | ((with_reducible refine wpList_boxV (w := w1) (by with_unfolding_all rfl) 43 (.tmp 1) (by with_unfolding_all rfl) [.string nm, .slice b1 ls.length d1, .slice b2 bs.length d2, .slice b3 ys.length d3, .int .i64 cc] (by with_unfolding_all rfl) ?_); intro w2 hA2 hB2 hS2; clear hS2; have HS2 := Sta.new HS1 hA2 hB2 (by simp); clear hA2 hB2)
    | ((with_reducible refine wpList_ldS (w := w2) (by with_unfolding_all rfl) 41 (.tmp 5) (by with_unfolding_all rfl) w.heap.size 0 [.string nm, .slice a1 ls.length c1, .slice a2 bs.length c2, .slice a3 ys.length c3, .int .i64 cc] [.string nm, .slice a1 ls.length c1, .slice a2 bs.length c2] (by with_unfolding_all rfl) (Sta.r (i := 1) HS2 (by with_unfolding_all rfl)) Tryd.uT_implManifest 3 Tryd.sT_implManifest (by with_unfolding_all rfl) (by with_unfolding_all rfl) ?_))
    | ((with_reducible refine wpList_ldS (w := w2) (by with_unfolding_all rfl) 41 (.tmp 7) (by with_unfolding_all rfl) w1.heap.size 0 [.string nm, .slice b1 ls.length d1, .slice b2 bs.length d2, .slice b3 ys.length d3, .int .i64 cc] [.string nm, .slice b1 ls.length d1, .slice b2 bs.length d2] (by with_unfolding_all rfl) (Sta.r (i := 0) HS2 (by with_unfolding_all rfl)) Tryd.uT_implManifest 3 Tryd.sT_implManifest (by with_unfolding_all rfl) (by with_unfolding_all rfl) ?_))
    | (go_at_call 38; have n3_0 : LayAt w2 a1 ls ∧ LabAt w2 a2 bs ∧ SA w2 a3 ys := (Sta.t (i := 0) HS2 rfl :).1; have n3_1 : LayAt w2 b1 ls ∧ LabAt w2 b2 bs ∧ SA w2 b3 ys := (Sta.t (i := 0) HS2 rfl :).2; (with_reducible refine (hC1 w2 n3_0 n3_1).mono ?_); rintro r w3 ⟨rfl, hB3⟩; have HS3 := Sta.call HS2 hB3; clear hB3; have cHS3_1_3 : w3.cell? ⟨w.heap.size, 3, none⟩ = some (.slice a3 ys.length c3) := Sta.c (i := 1) HS3 rfl rfl; have cHS3_0_3 : w3.cell? ⟨w1.heap.size, 3, none⟩ = some (.slice b3 ys.length d3) := Sta.c (i := 0) HS3 rfl rfl)
    | (go_at_call 29; have n4_0 : LayAt w3 a1 ls ∧ LabAt w3 a2 bs ∧ SA w3 a3 ys := (Sta.t (i := 0) HS3 rfl :).1; have n4_1 : LayAt w3 b1 ls ∧ LabAt w3 b2 bs ∧ SA w3 b3 ys := (Sta.t (i := 0) HS3 rfl :).2; (with_reducible refine (hC2 w3 n4_0 n4_1).mono ?_); rintro r w4 ⟨rfl, hB4⟩; have HS4 := Sta.call HS3 hB4; clear hB4; clear cHS3_1_3 cHS3_0_3; have cHS4_1_4 : w4.cell? ⟨w.heap.size, 4, none⟩ = some (.int .i64 cc) := Sta.c (i := 1) HS4 rfl rfl; have cHS4_0_4 : w4.cell? ⟨w1.heap.size, 4, none⟩ = some (.int .i64 cc) := Sta.c (i := 0) HS4 rfl rfl))
  go_ret
  exact ⟨rfl, Sta.fin HS4⟩
theorem markS_VR (a3 : Option Addr) (c3 : Nat) (ys : List ByteArray) (k0 : Nat) (w : World) (h : VR w a3 (svl ys)) (hy : ys.length ≤ 10) (h1 : 1 ≤ k0) (h2 : k0 ≤ 1000000) :
    Calls Tryd.prog 33 #[.slice a3 ys.length c3, .int .i64 (k0 : Int)] w fun r w' => ∃ z : Nat, r = .returned (.int .i64 (z : Int)) ∧ z = k0 + ys.length ∧ VR w' a3 (svl (mks k0 ys.length)) ∧ Mrk (fun k => ∃ ad, a3 = some ad ∧ k = ad.block) w w' := by
  by_cases h0 : ys = []
  · subst h0
    exact (markS_nil a3 c3 k0 w h2).mono fun r w' ⟨e1, e2⟩ => ⟨k0, e1, rfl, fun hl => absurd rfl hl, e2 ▸ Mrk.refl _ _⟩
  · obtain ⟨g, rfl, hr⟩ := h (svl_ne h0)
    exact (markS_row g c3 ys.length k0 ys w rfl hr (hr.lt (svl_ne h0)) (by omega) h1 h2).mono fun r w' ⟨e1, e2, e3⟩ => ⟨_, e1, rfl, fun _ => ⟨g, rfl, e2⟩, (Mrk.mono (T := fun k => k = g) ⟨fun k hk hn => e3.2 k hn hk, fun B hB hb => e3.below (hb g rfl) hB, e3.size⟩ fun k hk => ⟨_, rfl, hk⟩)⟩
def ImD (a1 a2 a3 : Option Addr) (k : Nat) : Prop := ManD a1 a2 k ∨ ∃ ad, a3 = some ad ∧ k = ad.block
theorem ImB.dom {a1 a2 a3 : Option Addr} {lo hi : Nat} (h : ImB a1 a2 a3 lo hi) : ∀ b, ImD a1 a2 a3 b → lo ≤ b ∧ b < hi := fun b hb => by
  rcases hb with (⟨ad, e, rfl⟩ | ⟨ad, e, rfl⟩) | ⟨ad, e, rfl⟩
  · exact h.1 ad e
  · exact h.2.1 ad e
  · exact h.2.2.1 ad e
set_option maxRecDepth 100000 in
set_option maxHeartbeats 2000000 in
theorem markIm (nm : ByteArray) (ls : List LayV) (bs : List LabV) (ys : List ByteArray) (cc : Int) (a1 a2 a3 : Option Addr) (c1 c2 c3 : Nat) (w : World) (h : VR w a1 (layL ls).flatten ∧ VR w a2 (labL bs).flatten ∧ VR w a3 (svl ys)) (hap : (∀ x y, a1 = some x → a2 = some y → x.block ≠ y.block) ∧ (∀ x y, a1 = some x → a3 = some y → x.block ≠ y.block) ∧ (∀ x y, a2 = some x → a3 = some y → x.block ≠ y.block)) (hb : ∀ b, ImD a1 a2 a3 b → b < w.heap.size) (h10 : ls.length ≤ 10 ∧ bs.length ≤ 10 ∧ ys.length ≤ 10) :
    Calls Tryd.prog 21 #[.agg #[.string nm, .slice a1 ls.length c1, .slice a2 bs.length c2, .slice a3 ys.length c3, .int .i64 cc], .int .i64 1] w fun r w' => ∃ z : Nat, r = .returned (.int .i64 (z : Int)) ∧ (z = 1 + 2 * ls.length + 2 * bs.length + ys.length) ∧ (VR w' a1 (mkLayC 1 (2 * ls.length)) ∧ VR w' a2 (mkLabC (1 + 2 * ls.length) (2 * bs.length)) ∧ VR w' a3 (svl (mks (1 + 2 * ls.length + 2 * bs.length) ys.length))) ∧ Mrk (ImD a1 a2 a3) w w' := by
  have hC : ∀ w0, VR w0 a1 (layL ls).flatten → VR w0 a2 (labL bs).flatten → w.heap.size ≤ w0.heap.size → Calls Tryd.prog 39 #[.agg #[.string nm, .slice a1 ls.length c1, .slice a2 bs.length c2], .int .i64 1] w0 fun r w' => ∃ z : Nat, r = .returned (.int .i64 (z : Int)) ∧ (z = 1 + 2 * ls.length + 2 * bs.length) ∧ (VR w' a1 (mkLayC 1 (2 * ls.length)) ∧ VR w' a2 (mkLabC (1 + 2 * ls.length) (2 * bs.length))) ∧ Mrk (ManD a1 a2) w0 w' := fun w0 n0 n1 hs => markMan_any nm a1 c1 ls.length a2 c2 bs.length _ _ 1 w0 (layL_flat ls) (labL_flat bs) n0 n1 hap.1 (fun ad e => Nat.lt_of_lt_of_le (hb _ (Or.inl (Or.inl ⟨ad, e, rfl⟩))) hs) (fun ad e => Nat.lt_of_lt_of_le (hb _ (Or.inl (Or.inr ⟨ad, e, rfl⟩))) hs) (by omega) (by omega) (by omega) (by omega)
  have hS : ∀ w0 (z : Nat), VR w0 a3 (svl ys) → z = 1 + 2 * ls.length + 2 * bs.length → Calls Tryd.prog 33 #[.slice a3 ys.length c3, .int .i64 (z : Int)] w0 fun r w' => ∃ y : Nat, r = .returned (.int .i64 (y : Int)) ∧ y = 1 + 2 * ls.length + 2 * bs.length + ys.length ∧ VR w' a3 (svl (mks (1 + 2 * ls.length + 2 * bs.length) ys.length)) ∧ Mrk (fun k => ∃ ad, a3 = some ad ∧ k = ad.block) w0 w' := fun w0 z n0 e => by subst e; exact markS_VR a3 c3 ys _ w0 n0 h10.2.2 (by omega) (by omega)
  have H1 := hidP h
  have HB := hidP hb
  have HAp := hidP hap
  clear h hb hap
  go_enter Tryd.func21, Tryd.ntmps21
  go_wp2_with (first
    | ((with_reducible refine wpList_boxV (w := w) (by with_unfolding_all rfl) 43 (.tmp 0) (by with_unfolding_all rfl) [.string nm, .slice a1 ls.length c1, .slice a2 bs.length c2, .slice a3 ys.length c3, .int .i64 cc] (by with_unfolding_all rfl) ?_); intro w1 hA1 hB1 hS1; have z1 : w.heap.size < w1.heap.size := (by omega); clear hS1)
    | ((with_reducible refine wpList_ldS (w := w1) (by with_unfolding_all rfl) 41 (.tmp 5) (by with_unfolding_all rfl) w.heap.size 0 [.string nm, .slice a1 ls.length c1, .slice a2 bs.length c2, .slice a3 ys.length c3, .int .i64 cc] [.string nm, .slice a1 ls.length c1, .slice a2 bs.length c2] (by with_unfolding_all rfl) hA1 Tryd.uT_implManifest 3 Tryd.sT_implManifest (by with_unfolding_all rfl) (by with_unfolding_all rfl) ?_))
    | (go_at_call 39; (with_reducible refine (hC w1 (H1.out.1.below hB1) (H1.out.2.1.below hB1) (Nat.le_of_lt z1)).mono ?_); rintro r w2 ⟨z, rfl, hz, hv2, M2⟩; have HZ := hidP hz; clear hz; have V2 := hidP hv2; clear hv2; have R2 := M2.row hA1 (by simp) (fun hd => Nat.lt_irrefl _ (HB.out _ (Or.inl hd))); have cB := R2.cell (k := 3) rfl; have V3 := (H1.out.2.2.below hB1).farM M2 (fun ad e hd => by rcases hd with ⟨bd, e2, e3⟩ | ⟨bd, e2, e3⟩; exact HAp.out.2.1 bd ad e2 e e3.symm; exact HAp.out.2.2 bd ad e2 e e3.symm))
    | (go_at_call 33; (with_reducible refine (hS w2 z V3 HZ.out).mono ?_); rintro r w3 ⟨y, rfl, hy, hv3, M3⟩; have HY := hidP hy; clear hy cB; have V4 := V2.out.1.farM M3 (fun ad e ⟨bd, e2, e3⟩ => HAp.out.2.1 ad bd e e2 e3); have V5 := V2.out.2.farM M3 (fun ad e ⟨bd, e2, e3⟩ => HAp.out.2.2 ad bd e e2 e3)))
  go_ret
  exact ⟨y, rfl, HY.out, ⟨V4, V5, hv3⟩, ((Mrk.of hB1).trans (M2.mono fun k hk => Or.inl hk)).trans (M3.mono fun k hk => Or.inr hk)⟩
set_option maxRecDepth 100000 in
set_option maxHeartbeats 4000000 in
theorem heldIm (nm : ByteArray) (ls : List LayV) (bs : List LabV) (ys : List ByteArray) (cc : Int) (a1 a2 a3 : Option Addr) (c1 c2 c3 : Nat) (w : World) (h : VR w a1 (mkLayC 1 (2 * ls.length)) ∧ VR w a2 (mkLabC (1 + 2 * ls.length) (2 * bs.length)) ∧ VR w a3 (svl (mks (1 + 2 * ls.length + 2 * bs.length) ys.length))) (h10 : ls.length ≤ 10 ∧ bs.length ≤ 10 ∧ ys.length ≤ 10) :
    Calls Tryd.prog 22 #[.agg #[.string nm, .slice a1 ls.length c1, .slice a2 bs.length c2, .slice a3 ys.length c3, .int .i64 cc], .int .i64 1] w fun r w' => ∃ z : Nat, r = .returned (.int .i64 (z : Int)) ∧ (z = 1 + 2 * ls.length + 2 * bs.length + ys.length) ∧ Below w.heap.size w w' := by
  have hC1 : ∀ w0, (VR w0 a1 (mkLayC 1 (2 * ls.length)) ∧ VR w0 a2 (mkLabC (1 + 2 * ls.length) (2 * bs.length)) ∧ VR w0 a3 (svl (mks (1 + 2 * ls.length + 2 * bs.length) ys.length))) → Calls Tryd.prog 40 #[.agg #[.string nm, .slice a1 ls.length c1, .slice a2 bs.length c2], .int .i64 1] w0 fun r w' => ∃ (z1 : Nat), r = .returned (.int .i64 (z1 : Int)) ∧ (z1 = 1 + 2 * ls.length + 2 * bs.length) ∧ Below w0.heap.size w0 w' := fun w0 n0 => heldMan_any nm a1 c1 ls.length a2 c2 bs.length 1 w0 n0.1 n0.2.1 (by omega) (by omega) (by omega) (by omega)
  have hC2 : ∀ w0 (z1 : Nat), (VR w0 a1 (mkLayC 1 (2 * ls.length)) ∧ VR w0 a2 (mkLabC (1 + 2 * ls.length) (2 * bs.length)) ∧ VR w0 a3 (svl (mks (1 + 2 * ls.length + 2 * bs.length) ys.length))) → (z1 = 1 + 2 * ls.length + 2 * bs.length) → Calls Tryd.prog 41 #[.slice a3 ys.length c3, .int .i64 (z1 : Int)] w0 fun r w' => ∃ (z2 : Nat), r = .returned (.int .i64 (z2 : Int)) ∧ (z2 = 1 + 2 * ls.length + 2 * bs.length + ys.length) ∧ Below w0.heap.size w0 w' := fun w0 z1 n0 n1 => by subst n1; exact (heldS_any a3 c3 ys.length (1 + 2 * ls.length + 2 * bs.length) w0 n0.2.2.sa (by omega) (by omega) (by omega)).mono fun r w' h => ⟨_, h.1, rfl, h.2⟩
  have HS0 : Hid (Sta [] w [] [⟨fun k => k < w.heap.size, fun w' => VR w' a1 (mkLayC 1 (2 * ls.length)) ∧ VR w' a2 (mkLabC (1 + 2 * ls.length) (2 * bs.length)) ∧ VR w' a3 (svl (mks (1 + 2 * ls.length + 2 * bs.length) ys.length))⟩] w) := Sta.arg (fun w' => VR w' a1 (mkLayC 1 (2 * ls.length)) ∧ VR w' a2 (mkLabC (1 + 2 * ls.length) (2 * bs.length)) ∧ VR w' a3 (svl (mks (1 + 2 * ls.length + 2 * bs.length) ys.length))) (fun w' hb => ⟨h.1.below hb, h.2.1.below hb, h.2.2.below hb⟩)
  clear h
  go_enter Tryd.func22, Tryd.ntmps22
  go_wp2_with (first
    | ((with_reducible refine wpList_boxV (w := w) (by with_unfolding_all rfl) 43 (.tmp 0) (by with_unfolding_all rfl) [.string nm, .slice a1 ls.length c1, .slice a2 bs.length c2, .slice a3 ys.length c3, .int .i64 cc] (by with_unfolding_all rfl) ?_); intro w1 hA1 hB1 hS1; clear hS1; have HS1 := Sta.new HS0 hA1 hB1 (by simp); clear hA1 hB1)
    | ((with_reducible refine wpList_ldS (w := w1) (by with_unfolding_all rfl) 41 (.tmp 5) (by with_unfolding_all rfl) w.heap.size 0 [.string nm, .slice a1 ls.length c1, .slice a2 bs.length c2, .slice a3 ys.length c3, .int .i64 cc] [.string nm, .slice a1 ls.length c1, .slice a2 bs.length c2] (by with_unfolding_all rfl) (Sta.r (i := 0) HS1 (by with_unfolding_all rfl)) Tryd.uT_implManifest 3 Tryd.sT_implManifest (by with_unfolding_all rfl) (by with_unfolding_all rfl) ?_))
    | (go_at_call 40; have n2_0 : VR w1 a1 (mkLayC 1 (2 * ls.length)) ∧ VR w1 a2 (mkLabC (1 + 2 * ls.length) (2 * bs.length)) ∧ VR w1 a3 (svl (mks (1 + 2 * ls.length + 2 * bs.length) ys.length)) := (Sta.t (i := 0) HS1 rfl :); (with_reducible refine (hC1 w1 n2_0).mono ?_); rintro r w2 ⟨z1, rfl, z1f, hB2⟩; have Hz1f := hidP z1f; clear z1f; have HS2 := Sta.call HS1 hB2; clear hB2; have q1 : ¬ ((z1 : Int) < 0) := (by omega); have cHS2_0_3 : w2.cell? ⟨w.heap.size, 3, none⟩ = some (.slice a3 ys.length c3) := Sta.c (i := 0) HS2 rfl rfl)
    | (go_at_call 41; have n3_0 : VR w2 a1 (mkLayC 1 (2 * ls.length)) ∧ VR w2 a2 (mkLabC (1 + 2 * ls.length) (2 * bs.length)) ∧ VR w2 a3 (svl (mks (1 + 2 * ls.length + 2 * bs.length) ys.length)) := (Sta.t (i := 0) HS2 rfl :); (with_reducible refine (hC2 w2 z1 n3_0 Hz1f.out).mono ?_); rintro r w3 ⟨z2, rfl, z2f, hB3⟩; have Hz2f := hidP z2f; clear z2f; have HS3 := Sta.call HS2 hB3; clear hB3; have q2 : ¬ ((z2 : Int) < 0) := (by omega); clear cHS2_0_3))
  go_ret
  exact ⟨_, rfl, Hz2f.out, Sta.fin HS3⟩
end Go.Proofs.YtchfpiadfmnphaaDoor
namespace Go.Proofs.YtchfpiadfmnphaaDoor
open Go.RowKit
set_option linter.unusedVariables false

set_option maxRecDepth 100000 in
set_option maxHeartbeats 32000000 in
theorem lawMat (a : Option Addr) (c n : Nat) (l : List ByteArray) (t : ByteArray) (w : World) (hn : l.length = n) (h : SA w a l) (hm : n ≤ maxLen) (hx : ∀ x ∈ l, x.size ≤ maxLen) (hk : ArrU w 0 keys) (h0 : 0 < w.heap.size) (ht : t.size ≤ maxLen) :
    Calls Tryd.prog 5 #[.agg #[.slice a n c], .string t] w fun r w' => r = .returned (.bool true) ∧ Below w.heap.size w w' := by
  have hkk : ∀ k : Nat, decide ((k : Int) < 0) = false := fun k => decide_eq_false (by omega)
  have hnn : ∀ k : Nat, ((k : Int) != (k : Int)) = false := fun k => by simp
  have ht' := ht
  unfold maxLen at ht'
  have hC1 : ∀ w0, (SA w0 a l ∧ ArrU w0 0 keys ∧ 0 < w0.heap.size) → Calls Tryd.prog 7 #[.agg #[.slice a n c], .int .i64 1048576] w0 fun r w' => ∃ (z : Int), r = .returned (.int .i64 z) ∧ (0 ≤ z → n ≤ 1048576) ∧ Below w0.heap.size w0 w' := fun w0 n0 => (szSto a c n l w0 hn n0.1 hm hx)
  have hC2 : ∀ w0 (z : Int), (SA w0 a l ∧ ArrU w0 0 keys ∧ 0 < w0.heap.size) → (0 ≤ z) → (0 ≤ z → n ≤ 1048576) → Calls Tryd.prog 9 #[.agg #[.slice a n c]] w0 fun r w' => ∃ (g0 : Nat), r = .returned (.agg #[.slice (some ⟨g0, 0, none⟩) n n]) ∧ (w0.heap.size ≤ g0 ∧ g0 < w'.heap.size) ∧ Made w0 w' (fun w2 => RowV w2 g0 (svl l)) ∧ Below w0.heap.size w0 w' := fun w0 z n0 n1 n2 => toSto a c n l w0 hn n0.1 (n2 n1)
  have hC3 : ∀ w0 (g0 : Nat), (RowV w0 g0 (svl l)) → Calls Tryd.prog 18 #[.agg #[.slice (some ⟨g0, 0, none⟩) n n], .string t] w0 fun r w' => ∃ (nm : ByteArray) (ls : List LayV) (bs : List LabV) (ys : List ByteArray) (cc : Int) (s1 : Option Addr) (s2 : Option Addr) (s3 : Option Addr) (e1 : Nat) (e2 : Nat) (e3 : Nat), r = .returned (.agg #[.string nm, .slice s1 ls.length e1, .slice s2 bs.length e2, .slice s3 ys.length e3, .int .i64 cc]) ∧ (ImAns l t nm ls bs ys cc) ∧ (ls.length ≤ 10 ∧ bs.length ≤ 10 ∧ ys.length ≤ 10) ∧ Made w0 w' (fun w2 => LayAt w2 s1 ls ∧ LabAt w2 s2 bs ∧ SA w2 s3 ys) ∧ Below w0.heap.size w0 w' := fun w0 g0 n0 => (specMat (some ⟨g0, 0, none⟩) n n l t w0 hn n0.sa hm hx ht).mono fun r w' ⟨nm, ls, bs, ys, a1, m1, c1, a2, m2, c2, a3, m3, c3, cc, h1, h2, ⟨h3, h4, h5, h6⟩, h7, h8⟩ => by subst h3 h4 h5; exact ⟨nm, ls, bs, ys, cc, a1, a2, a3, c1, c2, c3, h1, h2, h6, h7, h8⟩
  have hC4 : ∀ w0 (z : Int), (SA w0 a l ∧ ArrU w0 0 keys ∧ 0 < w0.heap.size) → (0 ≤ z) → (0 ≤ z → n ≤ 1048576) → Calls Tryd.prog 9 #[.agg #[.slice a n c]] w0 fun r w' => ∃ (g1 : Nat), r = .returned (.agg #[.slice (some ⟨g1, 0, none⟩) n n]) ∧ (w0.heap.size ≤ g1 ∧ g1 < w'.heap.size) ∧ Made w0 w' (fun w2 => RowV w2 g1 (svl l)) ∧ Below w0.heap.size w0 w' := fun w0 z n0 n1 n2 => toSto a c n l w0 hn n0.1 (n2 n1)
  have hC5 : ∀ w0 (nm : ByteArray) (ls : List LayV) (bs : List LabV) (ys : List ByteArray) (cc : Int) (g1 : Nat), (RowV w0 g1 (svl l)) → (SA w0 a l ∧ ArrU w0 0 keys ∧ 0 < w0.heap.size) → (ImAns l t nm ls bs ys cc) → Calls Tryd.prog 19 #[.agg #[.slice (some ⟨g1, 0, none⟩) n n], .string t] w0 fun r w' => ∃ (p1 : Option Addr) (p2 : Option Addr) (p3 : Option Addr) (u1 : Nat) (u2 : Nat) (u3 : Nat), r = .returned (.agg #[.string nm, .slice p1 ls.length u1, .slice p2 bs.length u2, .slice p3 ys.length u3, .int .i64 cc]) ∧ (ImB p1 p2 p3 w0.heap.size w'.heap.size) ∧ Made w0 w' (fun w2 => VR w2 p1 (layL ls).flatten ∧ VR w2 p2 (labL bs).flatten ∧ VR w2 p3 (svl ys)) ∧ Below w0.heap.size w0 w' := fun w0 nm ls bs ys cc g1 n0 n1 n2 => (implMat (some ⟨g1, 0, none⟩) n n l t w0 hn n0.sa hm hx n1.2.1 n1.2.2 ht).mono fun r w' ⟨nm', ls', bs', ys', a1, m1, c1, a2, m2, c2, a3, m3, c3, c', h1, h2, ⟨h3, h4, h5, h6⟩, h7, h8, h9⟩ => by obtain ⟨rfl, rfl, rfl, rfl, rfl⟩ := imAns_one n2 h2; subst h3 h4 h5; exact ⟨a1, a2, a3, c1, c2, c3, h1, h7, h8, h9⟩
  have hC6 : ∀ w0 (nm : ByteArray) (ls : List LayV) (bs : List LabV) (ys : List ByteArray) (cc : Int) (s1 : Option Addr) (s2 : Option Addr) (s3 : Option Addr) (e1 : Nat) (e2 : Nat) (e3 : Nat) (p1 : Option Addr) (p2 : Option Addr) (p3 : Option Addr) (u1 : Nat) (u2 : Nat) (u3 : Nat), (VR w0 p1 (layL ls).flatten ∧ VR w0 p2 (labL bs).flatten ∧ VR w0 p3 (svl ys)) → (LayAt w0 s1 ls ∧ LabAt w0 s2 bs ∧ SA w0 s3 ys) → ((ls.length ≤ 10 ∧ bs.length ≤ 10 ∧ ys.length ≤ 10)) → Calls Tryd.prog 20 #[.agg #[.string nm, .slice p1 ls.length u1, .slice p2 bs.length u2, .slice p3 ys.length u3, .int .i64 cc], .agg #[.string nm, .slice s1 ls.length e1, .slice s2 bs.length e2, .slice s3 ys.length e3, .int .i64 cc]] w0 fun r w' => r = .returned (.bool true) ∧ Below w0.heap.size w0 w' := fun w0 nm ls bs ys cc s1 s2 s3 e1 e2 e3 p1 p2 p3 u1 u2 u3 n0 n1 n2 => eqIm nm ls bs ys cc p1 p2 p3 u1 u2 u3 s1 s2 s3 e1 e2 e3 w0 ⟨n0.1.lay, n0.2.1.lab, n0.2.2.sa⟩ n1 n2
  have hC7 : ∀ w0 (z : Int), (SA w0 a l ∧ ArrU w0 0 keys ∧ 0 < w0.heap.size) → (0 ≤ z) → (0 ≤ z → n ≤ 1048576) → Calls Tryd.prog 9 #[.agg #[.slice a n c]] w0 fun r w' => ∃ (g2 : Nat), r = .returned (.agg #[.slice (some ⟨g2, 0, none⟩) n n]) ∧ (w0.heap.size ≤ g2 ∧ g2 < w'.heap.size) ∧ Made w0 w' (fun w2 => RowV w2 g2 (svl l)) ∧ Below w0.heap.size w0 w' := fun w0 z n0 n1 n2 => toSto a c n l w0 hn n0.1 (n2 n1)
  have hC8 : ∀ w0 (z : Int) (g1 : Nat) (g2 : Nat), (RowV w0 g1 (svl l)) → (RowV w0 g2 (svl l)) → (0 ≤ z) → (0 ≤ z → n ≤ 1048576) → Calls Tryd.prog 11 #[.agg #[.slice (some ⟨g1, 0, none⟩) n n], .agg #[.slice (some ⟨g2, 0, none⟩) n n]] w0 fun r w' => r = .returned (.bool true) ∧ Below w0.heap.size w0 w' := fun w0 z g1 g2 n0 n1 n2 n3 => by have := eqSto (some ⟨g1, 0, none⟩) (some ⟨g2, 0, none⟩) n n l w0 n0.sa n1.sa (by have := n3 n2; omega); rw [hn] at this; exact this
  have hC9 : ∀ w0 (z : Int) (g1 : Nat) (w7 : World) (w8 : World), (RowV w0 g1 (svl l)) → (g1 < w0.heap.size) → (0 ≤ z) → (0 ≤ z → n ≤ 1048576) → ((fun k => w7.heap.size ≤ k ∧ k < w8.heap.size) g1) → Calls Tryd.prog 15 #[.agg #[.slice (some ⟨g1, 0, none⟩) n n], .int .i64 1] w0 fun r w' => ∃ (k : Nat), r = .returned (.int .i64 (k : Int)) ∧ (∀ wm', Mrk (fun k => ¬ (fun k => w7.heap.size ≤ k ∧ k < w8.heap.size) k) w' wm' → (fun w2 => RowV w2 g1 (svl (mks 1 n))) wm') ∧ Mrk (fun k => k = g1) w0 w' := fun w0 z g1 w7 w8 n0 n1 n2 n3 n4 => (markSt g1 n l w0 hn n0 n1 (n3 n2)).mono fun r w' ⟨z, h1, h2, h3⟩ => ⟨z, h1, fun wm hw => h2 wm (hw.mono fun k hk e => hk (by rw [e]; exact n4)), h3⟩
  have hC10 : ∀ w0 (nm : ByteArray) (ls : List LayV) (bs : List LabV) (ys : List ByteArray) (cc : Int) (p1 : Option Addr) (p2 : Option Addr) (p3 : Option Addr) (u1 : Nat) (u2 : Nat) (u3 : Nat) (k : Nat) (w10 : World) (w11 : World), (VR w0 p1 (layL ls).flatten ∧ VR w0 p2 (labL bs).flatten ∧ VR w0 p3 (svl ys)) → ((ls.length ≤ 10 ∧ bs.length ≤ 10 ∧ ys.length ≤ 10)) → (∀ b, ImD p1 p2 p3 b → (fun k => w10.heap.size ≤ k ∧ k < w11.heap.size) b) → ((∀ x y, p1 = some x → p2 = some y → x.block ≠ y.block) ∧ (∀ x y, p1 = some x → p3 = some y → x.block ≠ y.block) ∧ (∀ x y, p2 = some x → p3 = some y → x.block ≠ y.block)) → (∀ b, ImD p1 p2 p3 b → b < w0.heap.size) → Calls Tryd.prog 21 #[.agg #[.string nm, .slice p1 ls.length u1, .slice p2 bs.length u2, .slice p3 ys.length u3, .int .i64 cc], .int .i64 1] w0 fun r w' => ∃ (zi : Nat), r = .returned (.int .i64 (zi : Int)) ∧ (zi = 1 + 2 * ls.length + 2 * bs.length + ys.length) ∧ (∀ wm', Mrk (fun k => ¬ (fun k => w10.heap.size ≤ k ∧ k < w11.heap.size) k) w' wm' → (fun w2 => VR w2 p1 (mkLayC 1 (2 * ls.length)) ∧ VR w2 p2 (mkLabC (1 + 2 * ls.length) (2 * bs.length)) ∧ VR w2 p3 (svl (mks (1 + 2 * ls.length + 2 * bs.length) ys.length))) wm') ∧ Mrk (ImD p1 p2 p3) w0 w' := fun w0 nm ls bs ys cc p1 p2 p3 u1 u2 u3 k w10 w11 n0 n1 n2 n3 n4 => (markIm nm ls bs ys cc p1 p2 p3 u1 u2 u3 w0 n0 n3 n4 n1).mono fun r w' ⟨z, h1, h2, ⟨h3, h4, h5⟩, h6⟩ => ⟨z, h1, h2, fun wq hw => ⟨h3.farM hw (fun ad e hn => hn (n2 _ (Or.inl (Or.inl ⟨ad, e, rfl⟩)))), h4.farM hw (fun ad e hn => hn (n2 _ (Or.inl (Or.inr ⟨ad, e, rfl⟩)))), h5.farM hw (fun ad e hn => hn (n2 _ (Or.inr ⟨ad, e, rfl⟩)))⟩, h6⟩
  have hC11 : ∀ w0 (nm : ByteArray) (ls : List LayV) (bs : List LabV) (ys : List ByteArray) (cc : Int) (p1 : Option Addr) (p2 : Option Addr) (p3 : Option Addr) (u1 : Nat) (u2 : Nat) (u3 : Nat) (zi : Nat), (VR w0 p1 (mkLayC 1 (2 * ls.length)) ∧ VR w0 p2 (mkLabC (1 + 2 * ls.length) (2 * bs.length)) ∧ VR w0 p3 (svl (mks (1 + 2 * ls.length + 2 * bs.length) ys.length))) → ((ls.length ≤ 10 ∧ bs.length ≤ 10 ∧ ys.length ≤ 10)) → (zi = 1 + 2 * ls.length + 2 * bs.length + ys.length) → Calls Tryd.prog 22 #[.agg #[.string nm, .slice p1 ls.length u1, .slice p2 bs.length u2, .slice p3 ys.length u3, .int .i64 cc], .int .i64 1] w0 fun r w' => r = .returned (.int .i64 (zi : Int)) ∧ Below w0.heap.size w0 w' := fun w0 nm ls bs ys cc p1 p2 p3 u1 u2 u3 zi n0 n1 n2 => (heldIm nm ls bs ys cc p1 p2 p3 u1 u2 u3 w0 n0 n1).mono fun r w' ⟨z', h1, h2, h3⟩ => by subst n2 h2; exact ⟨h1, h3⟩
  have hC12 : ∀ w0 (z : Int), (SA w0 a l ∧ ArrU w0 0 keys ∧ 0 < w0.heap.size) → (0 ≤ z) → (0 ≤ z → n ≤ 1048576) → Calls Tryd.prog 9 #[.agg #[.slice a n c]] w0 fun r w' => ∃ (g3 : Nat), r = .returned (.agg #[.slice (some ⟨g3, 0, none⟩) n n]) ∧ (w0.heap.size ≤ g3 ∧ g3 < w'.heap.size) ∧ Made w0 w' (fun w2 => RowV w2 g3 (svl l)) ∧ Below w0.heap.size w0 w' := fun w0 z n0 n1 n2 => toSto a c n l w0 hn n0.1 (n2 n1)
  have hC13 : ∀ w0 (nm : ByteArray) (ls : List LayV) (bs : List LabV) (ys : List ByteArray) (cc : Int) (g3 : Nat), (RowV w0 g3 (svl l)) → (SA w0 a l ∧ ArrU w0 0 keys ∧ 0 < w0.heap.size) → (ImAns l t nm ls bs ys cc) → Calls Tryd.prog 19 #[.agg #[.slice (some ⟨g3, 0, none⟩) n n], .string t] w0 fun r w' => ∃ (k1 : Option Addr) (k2 : Option Addr) (k3 : Option Addr) (f1 : Nat) (f2 : Nat) (f3 : Nat), r = .returned (.agg #[.string nm, .slice k1 ls.length f1, .slice k2 bs.length f2, .slice k3 ys.length f3, .int .i64 cc]) ∧ (ImB k1 k2 k3 w0.heap.size w'.heap.size) ∧ Made w0 w' (fun w2 => VR w2 k1 (layL ls).flatten ∧ VR w2 k2 (labL bs).flatten ∧ VR w2 k3 (svl ys)) ∧ Below w0.heap.size w0 w' := fun w0 nm ls bs ys cc g3 n0 n1 n2 => (implMat (some ⟨g3, 0, none⟩) n n l t w0 hn n0.sa hm hx n1.2.1 n1.2.2 ht).mono fun r w' ⟨nm', ls', bs', ys', a1, m1, c1, a2, m2, c2, a3, m3, c3, c', h1, h2, ⟨h3, h4, h5, h6⟩, h7, h8, h9⟩ => by obtain ⟨rfl, rfl, rfl, rfl, rfl⟩ := imAns_one n2 h2; subst h3 h4 h5; exact ⟨a1, a2, a3, c1, c2, c3, h1, h7, h8, h9⟩
  have hC14 : ∀ w0 (nm : ByteArray) (ls : List LayV) (bs : List LabV) (ys : List ByteArray) (cc : Int) (s1 : Option Addr) (s2 : Option Addr) (s3 : Option Addr) (e1 : Nat) (e2 : Nat) (e3 : Nat) (k1 : Option Addr) (k2 : Option Addr) (k3 : Option Addr) (f1 : Nat) (f2 : Nat) (f3 : Nat), (VR w0 k1 (layL ls).flatten ∧ VR w0 k2 (labL bs).flatten ∧ VR w0 k3 (svl ys)) → (LayAt w0 s1 ls ∧ LabAt w0 s2 bs ∧ SA w0 s3 ys) → ((ls.length ≤ 10 ∧ bs.length ≤ 10 ∧ ys.length ≤ 10)) → Calls Tryd.prog 20 #[.agg #[.string nm, .slice k1 ls.length f1, .slice k2 bs.length f2, .slice k3 ys.length f3, .int .i64 cc], .agg #[.string nm, .slice s1 ls.length e1, .slice s2 bs.length e2, .slice s3 ys.length e3, .int .i64 cc]] w0 fun r w' => r = .returned (.bool true) ∧ Below w0.heap.size w0 w' := fun w0 nm ls bs ys cc s1 s2 s3 e1 e2 e3 k1 k2 k3 f1 f2 f3 n0 n1 n2 => eqIm nm ls bs ys cc k1 k2 k3 f1 f2 f3 s1 s2 s3 e1 e2 e3 w0 ⟨n0.1.lay, n0.2.1.lab, n0.2.2.sa⟩ n1 n2
  have HS0 : Hid (Sta [] w [] [⟨fun k => k < w.heap.size, fun w' => SA w' a l ∧ ArrU w' 0 keys ∧ 0 < w'.heap.size⟩] w) := Sta.arg (fun w' => SA w' a l ∧ ArrU w' 0 keys ∧ 0 < w'.heap.size) (fun w' hb => ⟨h.below hb, hk.below hb h0, Nat.lt_of_lt_of_le h0 hb.size⟩)
  clear hn h hx hk h0
  go_enter Tryd.func5, Tryd.ntmps5
  by_cases g5 : 1048576 < t.size
  · as_aux_lemma =>
    have d5 : decide ((1048576 : Int) < (t.size : Int)) = true := decide_eq_true (by omega)
    go_wp2_with (first
      | ((with_reducible refine wpList_boxV (w := w) (by with_unfolding_all rfl) 24 (.tmp 0) (by with_unfolding_all rfl) [.slice a n c] (by with_unfolding_all rfl) ?_); intro w1 hA1 hB1 hS1; clear hS1; have HS1 := Sta.new HS0 hA1 hB1 (by simp); clear hA1 hB1))
    go_ret
    exact ⟨rfl, Sta.fin HS1⟩
  · have d5 : decide ((1048576 : Int) < (t.size : Int)) = false := decide_eq_false (by omega)
    go_wp2_with (first
      | ((with_reducible refine wpList_boxV (w := w) (by with_unfolding_all rfl) 24 (.tmp 0) (by with_unfolding_all rfl) [.slice a n c] (by with_unfolding_all rfl) ?_); intro w2 hA2 hB2 hS2; clear hS2; have HS2 := Sta.new HS0 hA2 hB2 (by simp); clear hA2 hB2)
      | ((with_reducible refine wpList_loadV (w := w2) (by with_unfolding_all rfl) 24 (.tmp 2) (by with_unfolding_all rfl) w.heap.size [.slice a n c] (by with_unfolding_all rfl) (Sta.r (i := 0) HS2 (by with_unfolding_all rfl)) Tryd.uT_lawsStore 1 Tryd.sT_lawsStore (by with_unfolding_all rfl) ?_)))
    have n3_0 : SA w2 a l ∧ ArrU w2 0 keys ∧ 0 < w2.heap.size := (Sta.t (i := 0) HS2 rfl :)
    refine (hC1 w2 n3_0).mono ?_
    rintro r w3 ⟨z, rfl, p, hB3⟩
    have Hp := hidP p
    clear p
    have HS3 := Sta.call HS2 hB3
    clear hB3
    by_cases hz : z < 0
    · as_aux_lemma =>
      go_wp2_with fail
      go_ret
      exact ⟨rfl, Sta.fin HS3⟩
    have hz' : 0 ≤ z := by omega
    go_wp2_with (first
      | ((with_reducible refine wpList_loadV (w := w3) (by with_unfolding_all rfl) 24 (.tmp 2) (by with_unfolding_all rfl) w.heap.size [.slice a n c] (by with_unfolding_all rfl) (Sta.r (i := 0) HS3 (by with_unfolding_all rfl)) Tryd.uT_lawsStore 1 Tryd.sT_lawsStore (by with_unfolding_all rfl) ?_))
      | (go_at_call 9; have n4_0 : SA w3 a l ∧ ArrU w3 0 keys ∧ 0 < w3.heap.size := (Sta.t (i := 0) HS3 rfl :); (with_reducible refine (hC2 w3 z n4_0 hz' Hp.out).mono ?_); rintro r w4 ⟨g0, rfl, q0, hP4, hB4⟩; have Hq0 := hidP q0; clear q0; have HS4 := Sta.made HS3 hB4 hP4; clear hB4 hP4)
      | (go_at_call 18; have n5_0 : RowV w4 g0 (svl l) := (Sta.t (i := 0) HS4 rfl :); (with_reducible refine (hC3 w4 g0 n5_0).mono ?_); rintro r w5 ⟨nm, ls, bs, ys, cc, s1, s2, s3, e1, e2, e3, rfl, an, ln, hP5, hB5⟩; have Han := hidP an; clear an; have Hln := hidP ln; clear ln; have HS5 := Sta.made HS4 hB5 hP5; clear hB5 hP5)
      | ((with_reducible refine wpList_allocV (w := w5) (by with_unfolding_all rfl) 43 (by with_unfolding_all rfl) [.string ⟨#[]⟩, .slice none 0 0, .slice none 0 0, .slice none 0 0, .int .i64 0] Tryd.zT_implImageOut ?_); intro w6 hA6 hB6 hS6; clear hS6; have HS6 := Sta.new HS5 hA6 hB6 (by simp); clear hA6 hB6)
      | ((with_reducible refine wpList_storeS (w := w6) (by with_unfolding_all rfl) 43 (.tmp 6) (.tmp 24) (by with_unfolding_all rfl) w5.heap.size [.string ⟨#[]⟩, .slice none 0 0, .slice none 0 0, .slice none 0 0, .int .i64 0] [.string nm, .slice s1 ls.length e1, .slice s2 bs.length e2, .slice s3 ys.length e3, .int .i64 cc] (by with_unfolding_all rfl) (by with_unfolding_all rfl) (Sta.r (i := 0) HS6 (by with_unfolding_all rfl)) 5 Tryd.sT_implImageOut (by with_unfolding_all rfl) (by with_unfolding_all rfl) (by with_unfolding_all rfl) ?_); intro w7 hA7 hO7; have HS7 := Sta.put 0 HS6 rfl hA7 (by simp) hO7; clear hA7 hO7)
      | ((with_reducible refine wpList_loadV (w := w7) (by with_unfolding_all rfl) 24 (.tmp 2) (by with_unfolding_all rfl) w.heap.size [.slice a n c] (by with_unfolding_all rfl) (Sta.r (i := 1) HS7 (by with_unfolding_all rfl)) Tryd.uT_lawsStore 1 Tryd.sT_lawsStore (by with_unfolding_all rfl) ?_))
      | (go_at_call 9; have n8_0 : SA w7 a l ∧ ArrU w7 0 keys ∧ 0 < w7.heap.size := (Sta.t (i := 2) HS7 rfl :); (with_reducible refine (hC4 w7 z n8_0 hz' Hp.out).mono ?_); rintro r w8 ⟨g1, rfl, q1, hP8, hB8⟩; have Hq1 := hidP q1; clear q1; have HS8 := Sta.made HS7 hB8 hP8; clear hB8 hP8)
      | ((with_reducible refine wpList_allocV (w := w8) (by with_unfolding_all rfl) 27 (by with_unfolding_all rfl) [.slice none 0 0] Tryd.zT_implStore ?_); intro w9 hA9 hB9 hS9; clear hS9; have HS9 := Sta.new HS8 hA9 hB9 (by simp); clear hA9 hB9)
      | ((with_reducible refine wpList_storeS (w := w9) (by with_unfolding_all rfl) 27 (.tmp 7) (.tmp 26) (by with_unfolding_all rfl) w8.heap.size [.slice none 0 0] [.slice (some ⟨g1, 0, none⟩) n n] (by with_unfolding_all rfl) (by with_unfolding_all rfl) (Sta.r (i := 0) HS9 (by with_unfolding_all rfl)) 1 Tryd.sT_implStore (by with_unfolding_all rfl) (by with_unfolding_all rfl) (by with_unfolding_all rfl) ?_); intro w10 hA10 hO10; have HS10 := Sta.put 0 HS9 rfl hA10 (by simp) hO10; clear hA10 hO10)
      | ((with_reducible refine wpList_loadV (w := w10) (by with_unfolding_all rfl) 27 (.tmp 7) (by with_unfolding_all rfl) w8.heap.size [.slice (some ⟨g1, 0, none⟩) n n] (by with_unfolding_all rfl) (Sta.r (i := 0) HS10 (by with_unfolding_all rfl)) Tryd.uT_implStore 1 Tryd.sT_implStore (by with_unfolding_all rfl) ?_))
      | (go_at_call 19; have n11_0 : RowV w10 g1 (svl l) := (Sta.t (i := 0) HS10 rfl :); have n11_1 : SA w10 a l ∧ ArrU w10 0 keys ∧ 0 < w10.heap.size := (Sta.t (i := 3) HS10 rfl :); (with_reducible refine (hC5 w10 nm ls bs ys cc g1 n11_0 n11_1 Han.out).mono ?_); rintro r w11 ⟨p1, p2, p3, u1, u2, u3, rfl, bp, hP11, hB11⟩; have Hbp := hidP bp; clear bp; have HS11 := Sta.made HS10 hB11 hP11; clear hB11 hP11)
      | ((with_reducible refine wpList_allocV (w := w11) (by with_unfolding_all rfl) 43 (by with_unfolding_all rfl) [.string ⟨#[]⟩, .slice none 0 0, .slice none 0 0, .slice none 0 0, .int .i64 0] Tryd.zT_implImageOut ?_); intro w12 hA12 hB12 hS12; clear hS12; have HS12 := Sta.new HS11 hA12 hB12 (by simp); clear hA12 hB12)
      | ((with_reducible refine wpList_storeS (w := w12) (by with_unfolding_all rfl) 43 (.tmp 8) (.tmp 29) (by with_unfolding_all rfl) w11.heap.size [.string ⟨#[]⟩, .slice none 0 0, .slice none 0 0, .slice none 0 0, .int .i64 0] [.string nm, .slice p1 ls.length u1, .slice p2 bs.length u2, .slice p3 ys.length u3, .int .i64 cc] (by with_unfolding_all rfl) (by with_unfolding_all rfl) (Sta.r (i := 0) HS12 (by with_unfolding_all rfl)) 5 Tryd.sT_implImageOut (by with_unfolding_all rfl) (by with_unfolding_all rfl) (by with_unfolding_all rfl) ?_); intro w13 hA13 hO13; have HS13 := Sta.put 0 HS12 rfl hA13 (by simp) hO13; clear hA13 hO13)
      | ((with_reducible refine wpList_loadV (w := w13) (by with_unfolding_all rfl) 43 (.tmp 8) (by with_unfolding_all rfl) w11.heap.size [.string nm, .slice p1 ls.length u1, .slice p2 bs.length u2, .slice p3 ys.length u3, .int .i64 cc] (by with_unfolding_all rfl) (Sta.r (i := 0) HS13 (by with_unfolding_all rfl)) Tryd.uT_implImageOut 5 Tryd.sT_implImageOut (by with_unfolding_all rfl) ?_))
      | ((with_reducible refine wpList_loadV (w := w13) (by with_unfolding_all rfl) 43 (.tmp 6) (by with_unfolding_all rfl) w5.heap.size [.string nm, .slice s1 ls.length e1, .slice s2 bs.length e2, .slice s3 ys.length e3, .int .i64 cc] (by with_unfolding_all rfl) (Sta.r (i := 2) HS13 (by with_unfolding_all rfl)) Tryd.uT_implImageOut 5 Tryd.sT_implImageOut (by with_unfolding_all rfl) ?_))
      | (go_at_call 20; have n14_0 : VR w13 p1 (layL ls).flatten ∧ VR w13 p2 (labL bs).flatten ∧ VR w13 p3 (svl ys) := (Sta.t (i := 0) HS13 rfl :); have n14_1 : LayAt w13 s1 ls ∧ LabAt w13 s2 bs ∧ SA w13 s3 ys := (Sta.t (i := 2) HS13 rfl :); (with_reducible refine (hC6 w13 nm ls bs ys cc s1 s2 s3 e1 e2 e3 p1 p2 p3 u1 u2 u3 n14_0 n14_1 Hln.out).mono ?_); rintro r w14 ⟨rfl, hB14⟩; have HS14 := Sta.call HS13 hB14; clear hB14))
    have HS15 := Sta.drew HS14
    go_region_held3 (fun w' => w'.cell? ⟨w8.heap.size, 0, none⟩ = some (.slice (some ⟨g1, 0, none⟩) n n) ∧ w'.cell? ⟨w.heap.size, 0, none⟩ = some (.slice a n c) ∧ Hid (Sta [] w [(w11.heap.size, [.string nm, .slice p1 ls.length u1, .slice p2 bs.length u2, .slice p3 ys.length u3, .int .i64 cc]), (w8.heap.size, [.slice (some ⟨g1, 0, none⟩) n n]), (w5.heap.size, [.string nm, .slice s1 ls.length e1, .slice s2 bs.length e2, .slice s3 ys.length e3, .int .i64 cc]), (w.heap.size, [.slice a n c])] [⟨fun k => w10.heap.size ≤ k ∧ k < w11.heap.size, fun w2 => VR w2 p1 (layL ls).flatten ∧ VR w2 p2 (labL bs).flatten ∧ VR w2 p3 (svl ys)⟩, ⟨fun k => w7.heap.size ≤ k ∧ k < w8.heap.size, fun w2 => RowV w2 g1 (svl l)⟩, ⟨fun k => w4.heap.size ≤ k ∧ k < w5.heap.size, fun w2 => LayAt w2 s1 ls ∧ LabAt w2 s2 bs ∧ SA w2 s3 ys⟩, ⟨fun k => w3.heap.size ≤ k ∧ k < w4.heap.size, fun w2 => RowV w2 g0 (svl l)⟩, ⟨fun k => k < w.heap.size, fun w' => SA w' a l ∧ ArrU w' 0 keys ∧ 0 < w'.heap.size⟩] w'))
      (first | exact ⟨Sta.c (i := 1) (HS15) rfl rfl, Sta.c (i := 3) (HS15) rfl rfl, (HS15)⟩ | exact ⟨Sta.c (i := 1) (Sta.call (HS15) hB16) rfl rfl, Sta.c (i := 3) (Sta.call (HS15) hB16) rfl rfl, (Sta.call (HS15) hB16)⟩ | exact ⟨Sta.c (i := 1) (Sta.call (Sta.call (HS15) hB16) hB17) rfl rfl, Sta.c (i := 3) (Sta.call (Sta.call (HS15) hB16) hB17) rfl rfl, (Sta.call (Sta.call (HS15) hB16) hB17)⟩)
      (first
        | (go_at_call 9; have n16_0 : SA w14.drew a l ∧ ArrU w14.drew 0 keys ∧ 0 < w14.drew.heap.size := (Sta.t (i := 4) (HS15) rfl :); (with_reducible refine (hC7 _ z n16_0 hz' Hp.out).mono ?_); rintro r w16 ⟨g2, rfl, q2, hP16, hB16⟩)
        | (go_at_call 11; have n17_0 : RowV w16 g1 (svl l) := (Sta.t (i := 2) (Sta.made (HS15) hB16 hP16) rfl :); have n17_1 : RowV w16 g2 (svl l) := (Sta.t (i := 0) (Sta.made (HS15) hB16 hP16) rfl :); (with_reducible refine (hC8 _ z g1 g2 n17_0 n17_1 hz' Hp.out).mono ?_); rintro r w17 ⟨rfl, hB17⟩))
    all_goals
      have Hq2 := hidP q2
      clear q2
      have HS18 := Sta.call (Sta.made (HS15) hB16 hP16) hB17
      go_wp2_with (first
        | ((with_reducible refine wpList_loadV (w := w17) (by with_unfolding_all rfl) 27 (.tmp 7) (by with_unfolding_all rfl) w8.heap.size [.slice (some ⟨g1, 0, none⟩) n n] (by with_unfolding_all rfl) (Sta.r (i := 1) HS18 (by with_unfolding_all rfl)) Tryd.uT_implStore 1 Tryd.sT_implStore (by with_unfolding_all rfl) ?_))
        | (go_at_call 15; have n19_0 : RowV w17 g1 (svl l) := (Sta.t (i := 2) HS18 rfl :); have n19_1 : g1 < w17.heap.size := Sta.lt (i := 2) HS18 rfl g1 Hq1.out; (with_reducible refine (hC9 w17 z g1 w7 w8 n19_0 n19_1 hz' Hp.out Hq1.out).mono ?_); rintro r w19 ⟨k, rfl, hK19, hM19⟩; have HS19 := Sta.mark 2 HS18 rfl hM19 (fun k hk => by rw [show k = g1 from hk]; exact Hq1.out) (fun k hk => Nat.le_trans (Sta.size HS7) hk.1) hK19; clear hK19 hM19; have cHS19_0_0 : w19.cell? ⟨w11.heap.size, 0, none⟩ = some (.string nm) := Sta.c (i := 0) HS19 rfl rfl; have cHS19_0_1 : w19.cell? ⟨w11.heap.size, 1, none⟩ = some (.slice p1 ls.length u1) := Sta.c (i := 0) HS19 rfl rfl; have cHS19_0_2 : w19.cell? ⟨w11.heap.size, 2, none⟩ = some (.slice p2 bs.length u2) := Sta.c (i := 0) HS19 rfl rfl; have cHS19_0_3 : w19.cell? ⟨w11.heap.size, 3, none⟩ = some (.slice p3 ys.length u3) := Sta.c (i := 0) HS19 rfl rfl; have cHS19_0_4 : w19.cell? ⟨w11.heap.size, 4, none⟩ = some (.int .i64 cc) := Sta.c (i := 0) HS19 rfl rfl; have cHS19_2_0 : w19.cell? ⟨w5.heap.size, 0, none⟩ = some (.string nm) := Sta.c (i := 2) HS19 rfl rfl; have cHS19_2_1 : w19.cell? ⟨w5.heap.size, 1, none⟩ = some (.slice s1 ls.length e1) := Sta.c (i := 2) HS19 rfl rfl; have cHS19_2_2 : w19.cell? ⟨w5.heap.size, 2, none⟩ = some (.slice s2 bs.length e2) := Sta.c (i := 2) HS19 rfl rfl; have cHS19_2_3 : w19.cell? ⟨w5.heap.size, 3, none⟩ = some (.slice s3 ys.length e3) := Sta.c (i := 2) HS19 rfl rfl; have cHS19_2_4 : w19.cell? ⟨w5.heap.size, 4, none⟩ = some (.int .i64 cc) := Sta.c (i := 2) HS19 rfl rfl)
        | (go_at_call 20; have n20_0 : VR w19 p1 (layL ls).flatten ∧ VR w19 p2 (labL bs).flatten ∧ VR w19 p3 (svl ys) := (Sta.t (i := 1) HS19 rfl :); have n20_1 : LayAt w19 s1 ls ∧ LabAt w19 s2 bs ∧ SA w19 s3 ys := (Sta.t (i := 3) HS19 rfl :); (with_reducible refine (hC6 w19 nm ls bs ys cc s1 s2 s3 e1 e2 e3 p1 p2 p3 u1 u2 u3 n20_0 n20_1 Hln.out).mono ?_); rintro r w20 ⟨rfl, hB20⟩; have HS20 := Sta.call HS19 hB20; clear hB20; clear cHS19_0_0 cHS19_0_1 cHS19_0_2 cHS19_0_3 cHS19_0_4 cHS19_2_0 cHS19_2_1 cHS19_2_2 cHS19_2_3 cHS19_2_4)
        | ((with_reducible refine wpList_loadV (w := w20) (by with_unfolding_all rfl) 43 (.tmp 8) (by with_unfolding_all rfl) w11.heap.size [.string nm, .slice p1 ls.length u1, .slice p2 bs.length u2, .slice p3 ys.length u3, .int .i64 cc] (by with_unfolding_all rfl) (Sta.r (i := 0) HS20 (by with_unfolding_all rfl)) Tryd.uT_implImageOut 5 Tryd.sT_implImageOut (by with_unfolding_all rfl) ?_))
        | (go_at_call 21; have n21_0 : VR w20 p1 (layL ls).flatten ∧ VR w20 p2 (labL bs).flatten ∧ VR w20 p3 (svl ys) := (Sta.t (i := 1) HS20 rfl :); have n21_2 : ∀ b, ImD p1 p2 p3 b → (fun k => w10.heap.size ≤ k ∧ k < w11.heap.size) b := Hbp.out.dom; have n21_3 : (∀ x y, p1 = some x → p2 = some y → x.block ≠ y.block) ∧ (∀ x y, p1 = some x → p3 = some y → x.block ≠ y.block) ∧ (∀ x y, p2 = some x → p3 = some y → x.block ≠ y.block) := Hbp.out.2.2.2; have n21_4 : ∀ b, ImD p1 p2 p3 b → b < w20.heap.size := (fun b hb => Sta.lt (i := 1) HS20 rfl b (Hbp.out.dom b hb)); (with_reducible refine (hC10 w20 nm ls bs ys cc p1 p2 p3 u1 u2 u3 k w10 w11 n21_0 Hln.out n21_2 n21_3 n21_4).mono ?_); rintro r w21 ⟨zi, rfl, zf, hK21, hM21⟩; have Hzf := hidP zf; clear zf; have HS21 := Sta.mark 1 HS20 rfl hM21 (Hbp.out.dom) (fun k hk => Nat.le_trans (Sta.size HS10) hk.1) hK21; clear hK21 hM21; have q1 : ¬ ((zi : Int) < 0) := (by omega); have q2 : ((zi : Int) != (zi : Int)) = false := (by simp))
        | ((with_reducible refine wpList_loadV (w := w21) (by with_unfolding_all rfl) 43 (.tmp 8) (by with_unfolding_all rfl) w11.heap.size [.string nm, .slice p1 ls.length u1, .slice p2 bs.length u2, .slice p3 ys.length u3, .int .i64 cc] (by with_unfolding_all rfl) (Sta.r (i := 0) HS21 (by with_unfolding_all rfl)) Tryd.uT_implImageOut 5 Tryd.sT_implImageOut (by with_unfolding_all rfl) ?_))
        | (go_at_call 22; have n22_0 : VR w21 p1 (mkLayC 1 (2 * ls.length)) ∧ VR w21 p2 (mkLabC (1 + 2 * ls.length) (2 * bs.length)) ∧ VR w21 p3 (svl (mks (1 + 2 * ls.length + 2 * bs.length) ys.length)) := (Sta.t (i := 1) HS21 rfl :); (with_reducible refine (hC11 w21 nm ls bs ys cc p1 p2 p3 u1 u2 u3 zi n22_0 Hln.out Hzf.out).mono ?_); rintro r w22 ⟨rfl, hB22⟩; have HS22 := Sta.call HS21 hB22; clear hB22)
        | ((with_reducible refine wpList_loadV (w := w22) (by with_unfolding_all rfl) 24 (.tmp 2) (by with_unfolding_all rfl) w.heap.size [.slice a n c] (by with_unfolding_all rfl) (Sta.r (i := 3) HS22 (by with_unfolding_all rfl)) Tryd.uT_lawsStore 1 Tryd.sT_lawsStore (by with_unfolding_all rfl) ?_))
        | (go_at_call 9; have n23_0 : SA w22 a l ∧ ArrU w22 0 keys ∧ 0 < w22.heap.size := (Sta.t (i := 5) HS22 rfl :); (with_reducible refine (hC12 w22 z n23_0 hz' Hp.out).mono ?_); rintro r w23 ⟨g3, rfl, q3, hP23, hB23⟩; have Hq3 := hidP q3; clear q3; have HS23 := Sta.made HS22 hB23 hP23; clear hB23 hP23)
        | (go_at_call 19; have n24_0 : RowV w23 g3 (svl l) := (Sta.t (i := 0) HS23 rfl :); have n24_1 : SA w23 a l ∧ ArrU w23 0 keys ∧ 0 < w23.heap.size := (Sta.t (i := 6) HS23 rfl :); (with_reducible refine (hC13 w23 nm ls bs ys cc g3 n24_0 n24_1 Han.out).mono ?_); rintro r w24 ⟨k1, k2, k3, f1, f2, f3, rfl, bk, hP24, hB24⟩; have Hbk := hidP bk; clear bk; have HS24 := Sta.made HS23 hB24 hP24; clear hB24 hP24)
        | ((with_reducible refine wpList_allocV (w := w24) (by with_unfolding_all rfl) 43 (by with_unfolding_all rfl) [.string ⟨#[]⟩, .slice none 0 0, .slice none 0 0, .slice none 0 0, .int .i64 0] Tryd.zT_implImageOut ?_); intro w25 hA25 hB25 hS25; clear hS25; have HS25 := Sta.new HS24 hA25 hB25 (by simp); clear hA25 hB25)
        | ((with_reducible refine wpList_storeS (w := w25) (by with_unfolding_all rfl) 43 (.tmp 12) (.tmp 64) (by with_unfolding_all rfl) w24.heap.size [.string ⟨#[]⟩, .slice none 0 0, .slice none 0 0, .slice none 0 0, .int .i64 0] [.string nm, .slice k1 ls.length f1, .slice k2 bs.length f2, .slice k3 ys.length f3, .int .i64 cc] (by with_unfolding_all rfl) (by with_unfolding_all rfl) (Sta.r (i := 0) HS25 (by with_unfolding_all rfl)) 5 Tryd.sT_implImageOut (by with_unfolding_all rfl) (by with_unfolding_all rfl) (by with_unfolding_all rfl) ?_); intro w26 hA26 hO26; have HS26 := Sta.put 0 HS25 rfl hA26 (by simp) hO26; clear hA26 hO26)
        | ((with_reducible refine wpList_loadV (w := w26) (by with_unfolding_all rfl) 43 (.tmp 12) (by with_unfolding_all rfl) w24.heap.size [.string nm, .slice k1 ls.length f1, .slice k2 bs.length f2, .slice k3 ys.length f3, .int .i64 cc] (by with_unfolding_all rfl) (Sta.r (i := 0) HS26 (by with_unfolding_all rfl)) Tryd.uT_implImageOut 5 Tryd.sT_implImageOut (by with_unfolding_all rfl) ?_))
        | ((with_reducible refine wpList_loadV (w := w26) (by with_unfolding_all rfl) 43 (.tmp 6) (by with_unfolding_all rfl) w5.heap.size [.string nm, .slice s1 ls.length e1, .slice s2 bs.length e2, .slice s3 ys.length e3, .int .i64 cc] (by with_unfolding_all rfl) (Sta.r (i := 3) HS26 (by with_unfolding_all rfl)) Tryd.uT_implImageOut 5 Tryd.sT_implImageOut (by with_unfolding_all rfl) ?_))
        | (go_at_call 20; have n27_0 : VR w26 k1 (layL ls).flatten ∧ VR w26 k2 (labL bs).flatten ∧ VR w26 k3 (svl ys) := (Sta.t (i := 0) HS26 rfl :); have n27_1 : LayAt w26 s1 ls ∧ LabAt w26 s2 bs ∧ SA w26 s3 ys := (Sta.t (i := 5) HS26 rfl :); (with_reducible refine (hC14 w26 nm ls bs ys cc s1 s2 s3 e1 e2 e3 k1 k2 k3 f1 f2 f3 n27_0 n27_1 Hln.out).mono ?_); rintro r w27 ⟨rfl, hB27⟩; have HS27 := Sta.call HS26 hB27; clear hB27)
        | ((with_reducible refine wpList_loadV (w := w27) (by with_unfolding_all rfl) 43 (.tmp 8) (by with_unfolding_all rfl) w11.heap.size [.string nm, .slice p1 ls.length u1, .slice p2 bs.length u2, .slice p3 ys.length u3, .int .i64 cc] (by with_unfolding_all rfl) (Sta.r (i := 1) HS27 (by with_unfolding_all rfl)) Tryd.uT_implImageOut 5 Tryd.sT_implImageOut (by with_unfolding_all rfl) ?_))
        | (go_at_call 22; have n28_0 : VR w27 p1 (mkLayC 1 (2 * ls.length)) ∧ VR w27 p2 (mkLabC (1 + 2 * ls.length) (2 * bs.length)) ∧ VR w27 p3 (svl (mks (1 + 2 * ls.length + 2 * bs.length) ys.length)) := (Sta.t (i := 3) HS27 rfl :); (with_reducible refine (hC11 w27 nm ls bs ys cc p1 p2 p3 u1 u2 u3 zi n28_0 Hln.out Hzf.out).mono ?_); rintro r w28 ⟨rfl, hB28⟩; have HS28 := Sta.call HS27 hB28; clear hB28))
      go_ret
      exact ⟨rfl, Sta.fin HS28⟩
end Go.Proofs.YtchfpiadfmnphaaDoor
