/- A map of the call's own, keyed by digests: made, put into, kept among what stands. -/
import Derived.Test.YtchfpiadfmnphaaDoorStK
import Derived.Test.YtchfpiadfmnphaaDoorStM
namespace Go.Proofs.YtchfpiadfmnphaaDoor
open Go.RowKit Go.Maps
set_option linter.unusedVariables false

def mapD (L : List ByteArray) : DataW Value := L.foldl (fun D x => D.put (kyl (digA x)) (.held (.agg #[.string x]))) (.map [])
theorem mapD_snoc (L : List ByteArray) (x : ByteArray) : mapD (L ++ [x]) = (mapD L).put (kyl (digA x)) (.held (.agg #[.string x])) := by
  unfold mapD
  rw [List.foldl_append]
  rfl
/- The map at block B: each text by its digest. -/
def MapK (w : World) (B : Nat) (L : List ByteArray) : Prop := w.ownsMap Tryd.prog 71 valK B L.length (mapD L)
theorem MapK.lt {w : World} {B : Nat} {L : List ByteArray} (h : MapK w B L) : B < w.heap.size := World.ownsMap.lt h
theorem MapK.same {w w' : World} {B : Nat} {L : List ByteArray} (h : MapK w B L) (hb : w'.heap[B]? = w.heap[B]?) : MapK w' B L := by
  obtain ⟨es, clock, h1, h2⟩ := h
  exact ⟨es, clock, hb.trans h1, h2⟩
theorem MapK.snoc {w : World} {B k : Nat} {l : List ByteArray} {x : ByteArray} (h : MapK w B (l.take k ++ [x])) (hk : k < l.length) (hx : l[k] = x) : MapK w B (l.take (k + 1)) := by
  rw [← hx, List.take_append_getElem] at h
  exact h
theorem wpList_makeMapK {ops : Array Oper} {rest : List Oper} {o : Oper} {a : Act} {w : World} {Q : Exit → Act → World → Prop} (hg : o.guard = none) (t : TypeId) (ho : o.op = .makeMap t none)
    (h : ∀ B w', w.heap.size = B → B < w'.heap.size → Below w.heap.size w w' → MapK w' B [] → wpList Tryd.prog ops Q rest (a.put o.dst (.map (some B))) w') : wpList Tryd.prog ops Q (o :: rest) a w := by
  refine wpList_plain hg fun K hK => ?_
  have hr := run_makeMap (P := Tryd.prog) t w
  unfold Oper.wp execOp
  simp only [ho, Option.map_none, hr, Sem.run_bind, Sem.run_pure, Result.andThen_ok]
  have hm := World.ownsMap_made w Tryd.prog 71 valK
  exact hK _ _ (h _ _ rfl hm.lt ((Below.refl _ w).alloc (Nat.le_refl _) _) hm)
theorem upon_makeMapK {o : Oper} {a : Act} {w : World} {K : Act → World → Prop} {Q : Exit → Act → World → Prop} (t : TypeId)
    (h : ∀ B w', w.heap.size = B → B < w'.heap.size → Below w.heap.size w w' → MapK w' B [] → K (a.put o.dst (.map (some B))) w') : Oper.upon Tryd.prog o a K Q ((Sem.run Tryd.prog (Instr.makeMap t none) w).andThen fun a w' => Result.ok (Next.value a) w') := by
  rw [run_makeMap]
  have hm := World.ownsMap_made w Tryd.prog 71 valK
  exact h _ _ rfl hm.lt ((Below.refl _ w).alloc (Nat.le_refl _) _) hm
theorem wpList_putK {ops : Array Oper} {rest : List Oper} {o : Oper} {a : Act} {w : World} {Q : Exit → Act → World → Prop} (hg : o.guard = none) (m x v : Operand) (ho : o.op = .mapUpdate 51 m x v)
    (B : Nat) (L : List ByteArray) (t X : ByteArray) (hm : a.eval m = .map (some B)) (hx : a.eval x = .agg (kyv t).toArray) (hv : a.eval v = .agg #[.string X]) (hM : MapK w B L) (ht : digA X = t) (h32 : t.size = 32) (hn : L.length < maxLen)
    (h : ∀ w', MapK w' B (L ++ [X]) → w.grownBy w' (some B) → wpList Tryd.prog ops Q rest (a.put o.dst undef) w') : wpList Tryd.prog ops Q (o :: rest) a w := by
  refine wpList_mapUpdate_own w hg m x v 51 ho 71 69 keyedK Tryd.underlying51 valK B L.length (mapD L) hm hM hn _ _ (kyl t) hx hv (key_of t h32) (.held (.agg #[.string X])) [] rfl fun w' h1 h2 => h w' ?_ h2
  unfold MapK
  rw [mapD_snoc, List.length_append, ht]
  exact h1
section
variable {G : List Nat} {w0 w w2 : World} {R : List (Nat × List Value)} {T : List Thing}
theorem Sta.map0 {B : Nat} (h : Hid (Sta G w0 R T w)) (hb : w.heap.size = B) (hlt : B < w2.heap.size) (hB : Below w.heap.size w w2) (hM : MapK w2 B []) : Hid (Sta G w0 R (⟨fun k => k = B, fun w' => MapK w' B []⟩ :: T) w2) := by
  have h2 := (Sta.call h hB).out
  refine ⟨h2.bel, h2.row, fun t ht => ?_, h2.dif, List.pairwise_cons.2 ⟨fun t ht k hk hd => ?_, h2.dis⟩, fun x hx t ht hd => ?_⟩
  · rcases List.mem_cons.1 ht with rfl | ht
    · exact ⟨fun k hk => hk ▸ hlt, fun w' hw => hM.same (hw.blk B hlt (fun hn => hn rfl))⟩
    · exact h2.thg t ht
  · have := (h.out.thg t ht).lt k hd
    have hk' : k = B := hk
    omega
  · rcases List.mem_cons.1 ht with rfl | ht
    · have := (h.out.row x hx).2.2.lt (h.out.row x hx).2.1
      have : x.1 = B := hd
      omega
    · exact h2.off x hx t ht hd
theorem Sta.upd {B : Nat} {P : World → Prop} {L : List ByteArray} (i : Nat) (h : Hid (Sta G w0 R T w)) (hi : T[i]? = some ⟨fun k => k = B, P⟩) (hb0 : w0.heap.size ≤ B) (hM : MapK w2 B L) (hg : w.grownBy w2 (some B)) : Hid (Sta G w0 R (T.set i ⟨fun k => k = B, fun w' => MapK w' B L⟩) w2) := by
  obtain ⟨hlt, he⟩ := List.getElem?_eq_some_iff.1 hi
  have hmem : (⟨fun k => k = B, P⟩ : Thing) ∈ T := he ▸ List.getElem_mem hlt
  have hm : Mrk (fun k => k = B) w w2 := ⟨fun k hk hn => hg.block k hk (fun e => hn (by injection e)), fun B' hB hb => ⟨hg.os, hg.tape, hg.output, hg.size, fun k hk => hg.block k (Nat.lt_of_lt_of_le hk hB) (fun e => by injection e with e; have := hb B rfl; omega)⟩, hg.size⟩
  have hset : ∀ t ∈ T.set i ⟨fun k => k = B, fun w' => MapK w' B L⟩, t = ⟨fun k => k = B, fun w' => MapK w' B L⟩ ∨ (t ∈ T ∧ ∀ k, k = B → ¬ t.dom k) := fun t ht => by
    obtain ⟨j, hj, rfl⟩ := List.mem_iff_getElem.1 ht
    rw [List.getElem_set]
    rw [List.length_set] at hj
    by_cases e : i = j
    · rw [if_pos e]; exact Or.inl rfl
    · rw [if_neg e]
      refine Or.inr ⟨List.getElem_mem hj, fun k hk hd => ?_⟩
      rcases Nat.lt_or_gt_of_ne e with h1 | h1
      · have := List.pairwise_iff_getElem.1 h.out.dis i j hlt hj h1 k
        rw [he] at this
        exact this hk hd
      · have := List.pairwise_iff_getElem.1 h.out.dis j i hj hlt h1 k hd
        rw [he] at this
        exact this hk
  refine ⟨h.out.bel.step ⟨hg.os, hg.tape, hg.output, hg.size, fun k hk => absurd hk (Nat.not_lt_zero _)⟩ fun k hk _ => hg.block k (Nat.lt_of_lt_of_le hk h.out.bel.size) (fun e => by injection e with e; omega), fun x hx => ⟨(h.out.row x hx).1, (h.out.row x hx).2.1, hm.row (h.out.row x hx).2.2 (h.out.row x hx).2.1 (h.out.off x hx _ hmem)⟩, fun t ht => ?_, h.out.dif, ?_, fun x hx t ht => ?_⟩
  · rcases hset t ht with rfl | ⟨ht, hd⟩
    · exact ⟨fun k hk => by have hk' : k = B := hk; rw [hk']; exact hM.lt, fun w' hw => hM.same (hw.blk B hM.lt (fun hn => hn rfl))⟩
    · exact (h.out.thg t ht).chg hm hd
  · rw [List.pairwise_iff_getElem]
    intro a b ha hb2 hab
    rw [List.length_set] at ha hb2
    have h1 := List.pairwise_iff_getElem.1 h.out.dis a b ha hb2 hab
    rw [List.getElem_set, List.getElem_set]
    by_cases e1 : i = a
    · subst e1
      rw [if_pos rfl, if_neg (by omega)]
      rw [he] at h1
      exact h1
    · rw [if_neg e1]
      by_cases e2 : i = b
      · subst e2
        rw [if_pos rfl]
        rw [he] at h1
        exact h1
      · rw [if_neg e2]
        exact h1
  · rcases hset t ht with rfl | ⟨ht, _⟩
    · exact (h.out.off x hx ⟨fun k => k = B, P⟩ hmem : ¬ x.1 = B)
    · exact h.out.off x hx t ht
end
end Go.Proofs.YtchfpiadfmnphaaDoor
