/- What a store is asked for: the text of a digest. The map tells what the list tells. -/
import Derived.Test.YtchfpiadfmnphaaDoorStT
import Derived.Test.YtchfpiadfmnphaaDoorTy
namespace Go.Proofs.YtchfpiadfmnphaaDoor
open Go.RowKit Go.Maps
set_option linter.unusedVariables false

def findO (l : List ByteArray) (t : ByteArray) : Option ByteArray := l.find? (fun x => decide (digA x = t))
theorem takeS {l : List ByteArray} {k : Nat} {x : ByteArray} (hk : k < l.length) (hx : l[k] = x) : l.take (k + 1) = l.take k ++ [x] := by rw [← hx, List.take_append_getElem]
theorem findO_snoc (L : List ByteArray) (x t : ByteArray) : findO (L ++ [x]) t = (findO L t).or (if digA x = t then some x else none) := by
  unfold findO
  rw [List.find?_append]
  by_cases h : digA x = t <;> simp [h]
theorem findO_step {l : List ByteArray} {k : Nat} {x t : ByteArray} (hk : k < l.length) (hx : l[k] = x) (h : findO (l.take k) t = none) (he : ¬ digA x = t) : findO (l.take (k + 1)) t = none := by
  rw [takeS hk hx, findO_snoc, h, if_neg he]; rfl
theorem findO_hit {l : List ByteArray} {k : Nat} {x t : ByteArray} (hk : k < l.length) (hx : l[k] = x) (h : findO (l.take k) t = none) (he : digA x = t) : findO l t = some x := by
  have h2 : findO (l.take (k + 1)) t = some x := by rw [takeS hk hx, findO_snoc, h, if_pos he]; rfl
  rw [← List.take_append_drop (k + 1) l]
  unfold findO at h2 ⊢
  rw [List.find?_append, h2]
  rfl
theorem findO_all {l : List ByteArray} {n : Nat} {t : ByteArray} (h : findO (l.take n) t = none) (hn : l.length = n) : findO l t = none := by
  rw [List.take_of_length_le (Nat.le_of_eq hn)] at h; exact h
theorem findO_le {l : List ByteArray} {t x : ByteArray} (h : findO l t = some x) : x ∈ l ∧ digA x = t := by
  unfold findO at h
  exact ⟨List.mem_of_find?_eq_some h, by have := List.find?_some h; simpa using this⟩
theorem nmLt_trans {a b c : ByteArray} (h : nmLt a b = true) (k : nmLt b c = true) : nmLt a c = true := by
  unfold nmLt at *
  rw [blt_eq] at *
  exact decide_eq_true (List.lt_trans (of_decide_eq_true h) (of_decide_eq_true k))
theorem nmLt_irr (a : ByteArray) : nmLt a a = false := by
  unfold nmLt
  rw [blt_eq]
  exact decide_eq_false (List.lt_irrefl _)
theorem StOk.lt {l : List ByteArray} (h : StOk l) (i : Nat) : ∀ d (hj : i + d + 1 < l.length), nmLt (digA (l[i]'(by omega))) (digA l[i + d + 1]) = true
  | 0, hj => h.2.2 i hj hj
  | d + 1, hj => nmLt_trans (StOk.lt h i d (by omega)) (h.2.2 (i + d + 1) hj hj)
theorem StOk.ne {l : List ByteArray} (h : StOk l) {i j : Nat} (hij : i < j) (hj : j < l.length) : ¬ digA (l[i]'(by omega)) = digA l[j] := fun e => by
  obtain ⟨d, rfl⟩ : ∃ d, j = i + d + 1 := ⟨j - i - 1, by omega⟩
  have := StOk.lt h i d hj
  rw [e, nmLt_irr] at this
  cases this
theorem kyl_inj {a b : ByteArray} (ha : a.size = 32) (hb : b.size = 32) (h : kyl a = kyl b) : a = b := by
  have h1 := keyedK.inj (key_of a ha) (h ▸ key_of b hb)
  injection h1 with h1
  have h2 : kyv a = kyv b := by simpa using congrArg Array.toList h1
  unfold kyv bvs at h2
  have h3 := (List.map_inj_right (fun x y e => by
    injection e with _ e
    exact UInt8.toNat_inj.1 (by omega))).1 h2
  obtain ⟨⟨x⟩⟩ := a
  obtain ⟨⟨y⟩⟩ := b
  simp at h3
  rw [h3]
theorem isMap_mapD (L : List ByteArray) : IsMap (mapD L) := by
  unfold mapD
  suffices h : ∀ (L : List ByteArray) (D : DataW Value), IsMap D → IsMap (L.foldl (fun D x => D.put (kyl (digA x)) (.held (.agg #[.string x]))) D) from h L _ isMap_empty
  intro L
  induction L with
  | nil => exact fun D h => h
  | cons x L ih =>
    intro D ⟨es, hD⟩
    exact ih _ (by subst hD; exact ⟨_, rfl⟩)
theorem mapD_at {l : List ByteArray} {t : ByteArray} (h : StOk l) (ht : t.size = 32) (zd : DataW Value) : ∀ k, k ≤ l.length → (mapD (l.take k)).atKey (kyl t) zd = ((findO (l.take k) t).map fun x => DataW.held (.agg #[.string x])).getD zd
  | 0, _ => by simp [mapD, findO, DataW.atKey]
  | k + 1, hk => by
    have hkl : k < l.length := by omega
    have ih := mapD_at h ht zd k (by omega)
    rw [takeS hkl rfl, mapD_snoc, findO_snoc]
    by_cases e : digA l[k] = t
    · have hno : findO (l.take k) t = none := by
        unfold findO
        rw [List.find?_eq_none]
        intro x hx
        obtain ⟨i, hi, rfl⟩ := List.mem_iff_getElem.1 hx
        have hi2 : i < k := by rw [List.length_take] at hi; omega
        rw [List.getElem_take]
        simp only [decide_eq_true_eq]
        intro e2
        exact StOk.ne h hi2 hkl (e2.trans e.symm)
      rw [hno, if_pos e, e, atKey_put_same (k := kyl t) (isMap_mapD _) (by unfold kyl; trivial)]
      rfl
    · have hne : ¬ kyl t = kyl (digA l[k]) := fun q => e (kyl_inj ht (digA_32 (h.2.1 k hkl hkl)) q).symm
      rw [atKey_put_other hne, ih, if_neg e, Option.or_none]
theorem findO_size {l : List ByteArray} {t x : ByteArray} (h : StOk l) (hf : findO l t = some x) : t.size = 32 := by
  obtain ⟨h1, h2⟩ := findO_le hf
  obtain ⟨i, hi, rfl⟩ := List.mem_iff_getElem.1 h1
  rw [← h2]
  exact digA_32 (h.2.1 i hi hi)
/- What StoreGet answers. -/
noncomputable def getC (l : List ByteArray) (t : ByteArray) : Int := if 20000 < t.size then 2 else if boolP (StOk l) = true then (if (findO l t).isSome = true then 0 else 9) else 1
noncomputable def getY (l : List ByteArray) (t : ByteArray) : ByteArray := if 20000 < t.size then ⟨#[]⟩ else if boolP (StOk l) = true then (findO l t).getD ⟨#[]⟩ else ⟨#[]⟩
theorem get_cases (l : List ByteArray) (t : ByteArray) : (20000 < t.size ∧ getC l t = 2 ∧ getY l t = ⟨#[]⟩) ∨ (¬ 20000 < t.size ∧ ¬ StOk l ∧ getC l t = 1 ∧ getY l t = ⟨#[]⟩) ∨ (¬ 20000 < t.size ∧ StOk l ∧ findO l t = none ∧ getC l t = 9 ∧ getY l t = ⟨#[]⟩) ∨ ∃ X, ¬ 20000 < t.size ∧ StOk l ∧ findO l t = some X ∧ getC l t = 0 ∧ getY l t = X := by
  unfold getC getY
  by_cases h1 : 20000 < t.size
  · exact Or.inl ⟨h1, if_pos h1, if_pos h1⟩
  · rw [if_neg h1, if_neg h1]
    by_cases h2 : StOk l
    · have h3 := boolP_yes h2
      rw [if_pos h3, if_pos h3]
      cases hf : findO l t with
      | none => exact Or.inr (Or.inr (Or.inl ⟨h1, h2, rfl, rfl, rfl⟩))
      | some X => exact Or.inr (Or.inr (Or.inr ⟨X, h1, h2, rfl, rfl, rfl⟩))
    · have h3 := boolP_no h2
      rw [if_neg (by rw [h3]; decide), if_neg (by rw [h3]; decide)]
      exact Or.inr (Or.inl ⟨h1, h2, rfl, rfl⟩)
def getV (o : Option ByteArray) : Value := match o with
  | some x => .tuple #[.string x, .bool true]
  | none => .tuple #[.string ⟨#[]⟩, .bool false]
theorem zeroSt (w : World) : (zeroValue 69).run Tryd.prog w = .ok (.agg #[.string ⟨#[]⟩]) w := by
  have hz := Tryd.zT_implstored
  cases hq : Tryd.prog.info? 69 with
  | none => rw [hq] at hz; cases hz
  | some i =>
    rw [hq] at hz
    simp only [Option.map_some, Option.some.injEq] at hz
    simp [zeroValue, typeInfo, hq, hz]
set_option maxRecDepth 100000 in
theorem lookK {w : World} {B : Nat} {l : List ByteArray} {t : ByteArray} (hM : MapK w B l) (ht : t.size = 32) (h : StOk l) (hz : (zeroValue 69).run Tryd.prog w = .ok (.agg #[.string ⟨#[]⟩]) w) :
    (Instr.lookup 51 (.map (some B)) (.agg (kyv t).toArray) true).run Tryd.prog w = .ok (match findO l t with | some x => .tuple #[.agg #[.string x], .bool true] | none => .tuple #[.agg #[.string ⟨#[]⟩], .bool false]) w := by
  obtain ⟨es, clock, hb, F, _, hD⟩ := hM
  have hat := fun zd => mapD_at h ht zd l.length (Nat.le_refl _)
  rw [List.take_length, hD] at hat
  rcases Maps.fit_look true keyedK Tryd.underlying51 hz hb F (key_of t ht) with ⟨hrun, _, h2⟩ | ⟨e0, y, _, _, hrun, hR, h2, _⟩
  · cases hf : findO l t with
    | none => simpa using hrun
    | some x =>
      have h3 := (h2 .nil).symm.trans (hat .nil)
      rw [hf] at h3
      cases h3
  · have hy : y.1 = .held e0.val := by
      unfold valK at hR
      injection hR with hR
      rw [← hR]
    cases hf : findO l t with
    | none =>
      have h3 := (h2 .nil).symm.trans (hat .nil)
      rw [hf, hy] at h3
      cases h3
    | some x =>
      have h3 := (h2 .nil).symm.trans (hat .nil)
      rw [hf, hy] at h3
      have h4 : e0.val = .agg #[.string x] := by
        have h5 : (DataW.held e0.val : DataW Value) = .held (.agg #[.string x]) := h3
        injection h5
      rw [h4] at hrun
      simpa using hrun
theorem wpList_lookK {ops : Array Oper} {rest : List Oper} {o : Oper} {a : Act} {w : World} {Q : Exit → Act → World → Prop} (hg : o.guard = none) (m x : Operand) (ho : o.op = .lookup 51 m x true)
    (B : Nat) (l : List ByteArray) (t : ByteArray) (v : Value) (hm : a.eval m = .map (some B)) (hx : a.eval x = .agg (kyv t).toArray) (hM : MapK w B l) (ht : t.size = 32) (hS : StOk l) (hv : (match findO l t with | some x => .tuple #[.agg #[.string x], .bool true] | none => .tuple #[.agg #[.string ⟨#[]⟩], .bool false]) = v)
    (h : wpList Tryd.prog ops Q rest (a.put o.dst v) w) : wpList Tryd.prog ops Q (o :: rest) a w := by
  refine wpList_plain hg fun K hK => ?_
  have hr := lookK hM ht hS (zeroSt w)
  rw [hv] at hr
  unfold Oper.wp
  simp [execOp, ho, hm, hx, hr, Result.andThen]
  exact hK _ _ h
end Go.Proofs.YtchfpiadfmnphaaDoor
