/- A digest as a key of a map: its bytes laid into an array; a map of the call's own that is keyed so. -/
import Derived.Test.YtchfpiadfmnphaaDoorStaL
import Derived.Test.YtchfpiadfmnphaaDoorTy
import Derived.Test.YtchfpiadfmnphaaDoorOwn
import Derived.Laws.IdiomCopy
import Derived.Maps.Own
import Derived.Maps.Views
import Derived.DeepKeys4
namespace Go.Proofs.YtchfpiadfmnphaaDoor
open Go.RowKit Go.Maps
set_option linter.unusedVariables false

def kyv (t : ByteArray) : List Value := bvs t.data.toList
theorem kyv_len (t : ByteArray) : (kyv t).length = t.size := by unfold kyv; rw [bvs_length]; rfl
theorem kyv_one (t : ByteArray) : ∀ v ∈ kyv t, v.oneCell' = true := fun v hv => by
  unfold kyv bvs at hv
  obtain ⟨b, _, rfl⟩ := List.mem_map.1 hv
  rfl
set_option maxRecDepth 100000 in
theorem run_copyStr (g : Nat) (l : List Value) (t : ByteArray) (w : World) (ty : TypeId) (hl : RowV w g l) (ht : t.size = l.length) :
    (Builtin.copy_ #[80, 9] ty #[.slice (some ⟨g, 0, none⟩) l.length l.length, .string t]).run Tryd.prog w = .ok (goInt l.length) (w.setCells g 0 (kyv t)) := by
  have hst := run_storeCells_cells (P := Tryd.prog) g 0 (kyv t) 0 w (fun j hj => by
      have := (hl.ths j (by rw [kyv_len, ht] at hj; exact hj)).1
      simpa using this) (fun j hj => by
      have := (hl.ths j (by rw [kyv_len, ht] at hj; exact hj)).2
      simpa using this) (kyv_one t)
  have hk : List.take l.length (List.map (fun b : UInt8 => Value.int .u8 b.toNat) t.data.toList) = kyv t := by
    rw [List.take_of_length_le (by rw [List.length_map, ← ht]; exact Nat.le_refl _)]
    rfl
  obtain ⟨i, hi, _, hz, _⟩ := info_parts Tryd.infoU8
  simp [Builtin.copy_, run_underlying Tryd.underlying80, Builtin.lenOf, Builtin.firstCells, sizeOf, typeInfo, hi, ht]
  rw [hk, hst]
  simp
theorem wpList_copyStr {ops : Array Oper} {rest : List Oper} {o : Oper} {a : Act} {w : World} {Q : Exit → Act → World → Prop} (hg : o.guard = none) (d s : Operand) (ho : o.op = .call { callee := .builtin .copy, args := #[d, s], argTypes := #[80, 9] })
    (g : Nat) (l : List Value) (n : Nat) (t : ByteArray) (hn : l.length = n) (hd : a.eval d = .slice (some ⟨g, 0, none⟩) n n) (hs : a.eval s = .string t) (hl : RowV w g l) (ht : t.size = n)
    (h : ∀ w', RowV w' g (kyv t) → Only g w w' → wpList Tryd.prog ops Q rest (a.put o.dst (goInt n)) w') : wpList Tryd.prog ops Q (o :: rest) a w := by
  subst hn
  refine wpList_plain hg fun K hK => ?_
  have hr := run_copyStr g l t w o.type hl ht
  unfold Oper.wp execOp
  simp only [ho, resolve, invoke, builtin, Sem.run_bind, Sem.run_pure, Result.andThen_ok, List.map_toArray, List.map_cons, List.map_nil, hd, hs, hr]
  refine hK _ _ (h _ ?_ (Only.set (fun B hB => below_set hB) (fun k hk => setCells_blk g _ _ _ k hk) (setCells_size g _ 0 w)))
  have hl2 : (kyv t).length = l.length := by rw [kyv_len, ht]
  have := hl.midS (p := 0) (l2 := kyv t) (l' := kyv t) (by rw [hl2]; omega) (by rw [hl2, Nat.zero_add, List.drop_length, List.append_nil]; rfl)
  exact this
theorem slcK (g : Nat) (w : World) : (Instr.sliceAt 71 (.pointer (some ⟨g, 0, none⟩)) none none none).run Tryd.prog w = .ok (.slice (some ⟨g, 0, none⟩) 32 32) w := by
  have hl : Tryd.prog.arrayLen 71 = 32 := by kernel_rfl
  have he : Tryd.prog.elem 71 = 5 := by kernel_rfl
  have ht : Tryd.prog.underlying 71 = some (.array (Tryd.prog.arrayLen 71) (Tryd.prog.elem 71)) := by rw [hl, he]; exact Tryd.underlying71
  obtain ⟨i, hi, _, hz, _⟩ := info_parts Tryd.infoU8
  rw [run_sliceAt_array_all w 71 ⟨g, 0, none⟩ ht, hl, he]
  simp [sizeOf, typeInfo, hi, slicedAt, Addr.add, go_sem]
theorem wpList_slcK {ops : Array Oper} {rest : List Oper} {o : Oper} {a : Act} {w : World} {Q : Exit → Act → World → Prop} (hg : o.guard = none) (d : Operand) (ho : o.op = .slice 71 d none none none)
    (g : Nat) (hd : a.eval d = .pointer (some ⟨g, 0, none⟩)) (h : wpList Tryd.prog ops Q rest (a.put o.dst (.slice (some ⟨g, 0, none⟩) 32 32)) w) : wpList Tryd.prog ops Q (o :: rest) a w := by
  refine wpList_plain hg fun K hK => ?_
  have hr := slcK g w
  unfold Oper.wp execOp
  simp only [ho, Option.map_none, hd, hr, Sem.run_bind, Sem.run_pure, Result.andThen_ok]
  exact hK _ _ h
set_option maxRecDepth 100000 in
set_option maxHeartbeats 2000000 in
theorem keyOfI (t : ByteArray) (w : World) (h : t.size = 32) :
    Calls Tryd.prog 45 #[.string t] w fun r w' => r = .returned (.agg (kyv t).toArray) ∧ Below w.heap.size w w' := by
  have hk32 : (kyv t).length = 32 := (kyv_len t).trans h
  have hone := List.all_eq_true.2 (kyv_one t)
  have zK : (Tryd.prog.info? 71).map (fun i => i.zero) = some (some (.agg (List.replicate 32 (.int .u8 0)).toArray)) := Tryd.zT_implblobKey
  go_enter Tryd.func45, Tryd.ntmps45
  go_wp2_with (first
    | ((with_reducible refine wpList_allocV (w := w) (by with_unfolding_all rfl) 71 (by with_unfolding_all rfl) (List.replicate 32 (.int .u8 0)) zK ?_); intro w1 hA1 hB1 hS1; have z1 : w.heap.size < w1.heap.size := (by omega); clear hS1)
    | ((with_reducible refine wpList_allocV (w := w1) (by with_unfolding_all rfl) 71 (by with_unfolding_all rfl) (List.replicate 32 (.int .u8 0)) zK ?_); intro w2 hA2 hB2 hS2; clear hS2; have R2 := hA1.below hB2 z1)
    | (with_reducible refine wpList_slcK (w := w2) (by with_unfolding_all rfl) (.tmp 3) (by with_unfolding_all rfl) w1.heap.size (by with_unfolding_all rfl) ?_)
    | ((with_reducible refine wpList_copyStr (w := w2) (by with_unfolding_all rfl) (.tmp 4) (.tmp 5) (by with_unfolding_all rfl) w1.heap.size (List.replicate 32 (.int .u8 0)) 32 t (by with_unfolding_all rfl) (by with_unfolding_all rfl) (by with_unfolding_all rfl) hA2 h ?_); intro w3 hA3 hO3; have R3 := hO3.row R2 (by simp) (Nat.ne_of_lt z1))
    | ((with_reducible refine wpList_loadV (w := w3) (by with_unfolding_all rfl) 71 (.tmp 3) (by with_unfolding_all rfl) w1.heap.size (kyv t) (by with_unfolding_all rfl) hA3 Tryd.uT_implblobKey 32 Tryd.sT_implblobKey hk32 ?_))
    | ((with_reducible refine wpList_storeS (w := w3) (by with_unfolding_all rfl) 71 (.tmp 2) (.tmp 7) (by with_unfolding_all rfl) w.heap.size (List.replicate 32 (.int .u8 0)) (kyv t) (by with_unfolding_all rfl) (by with_unfolding_all rfl) R3 32 Tryd.sT_implblobKey rfl hk32 hone ?_); intro w4 hA4 hO4; have B4 : Below w.heap.size w w4 := (((hB1.trans (hB2.mono (Nat.le_of_lt z1))).trans (hO3.bel (Nat.le_of_lt z1))).trans (hO4.bel (Nat.le_refl _)))))
  exact bodyPost_ret (results_V (t := 71) rfl _ w.heap.size (kyv t) rfl hA4 Tryd.uT_implblobKey 32 Tryd.sT_implblobKey hk32) rfl ⟨rfl, B4⟩
/- The key's law. -/
theorem laidK : laidOutB Tryd.prog = true := by kernel_rfl
theorem keyedK : Keyed Tryd.prog 71 := Keyed.of_law (deep_law_laid laidK (m := 2) (by omega) (of_decide_eq_true (by kernel_rfl)) (by kernel_rfl) (by kernel_rfl))
theorem mapM_yes {α β : Type} {f : α → Option β} {g : α → β} : ∀ L : List α, (∀ x ∈ L, f x = some (g x)) → L.mapM f = some (L.map g)
  | [], _ => rfl
  | x :: L, h => by
    rw [List.mapM_cons, h x (List.mem_cons_self ..), mapM_yes L (fun y hy => h y (List.mem_cons_of_mem _ hy))]
    rfl
/- What a digest reads as, as a key. -/
def kyl (t : ByteArray) : Lit := .string (keyBytes (((List.range 32).map fun i => [Lit.int .u8 (t.data.toList.getD i 0).toNat]).flatten))
theorem key_of (t : ByteArray) (h : t.size = 32) : keyOf Tryd.prog 71 (.agg (kyv t).toArray) = some (kyl t) := by
  have hu := Tryd.underlying71
  have hc : Tryd.prog.cellsOf 71 = 32 := by kernel_rfl
  have hc1 : Tryd.prog.cellsOf 5 = 1 := by kernel_rfl
  have hkt : Tryd.prog.keyType 71 = true := by kernel_rfl
  have hl : (kyv t).length = 32 := (kyv_len t).trans h
  obtain ⟨D, hD⟩ : ∃ D, Tryd.prog.types.size + 1 = D + 2 := ⟨Tryd.prog.types.size - 1, by have : 0 < Tryd.prog.types.size := of_decide_eq_true (by kernel_rfl); omega⟩
  have hlit : ∀ i, i < 32 → Tryd.prog.keyLits (D + 1) 5 (((kyv t).drop (i * 1)).take 1) = some [.int .u8 (t.data.toList.getD i 0).toNat] := fun i hi => by
    have hi2 : i < t.data.toList.length := by have : t.data.toList.length = 32 := h; omega
    have e : ((kyv t).drop (i * 1)).take 1 = [.int .u8 (t.data.toList.getD i 0).toNat] := by
      unfold kyv bvs
      rw [Nat.mul_one, ← List.map_drop, ← List.map_take, List.drop_eq_getElem_cons hi2]
      simp [BV, List.getD_eq_getElem?_getD, List.getElem?_eq_getElem hi2]
    rw [e]
    generalize t.data.toList.getD i 0 = b
    have hb := b.toNat_lt
    rw [Program.keyLits]
    case heq => exact Tryd.underlying5
    rw [if_pos ⟨rfl, by simp [Lit.wf, IntKind.min, IntKind.max, IntKind.signed, IntKind.bits]; omega⟩]
  unfold keyOf
  rw [hu]
  simp only
  rw [hkt, show (Value.agg (kyv t).toArray).formed Tryd.prog 71 = true by simp [Value.formed, hu, hc, hl], hD]
  simp only [Bool.and_self, if_true]
  rw [show (Value.agg (kyv t).toArray).cells.toList = kyv t by simp [Value.cells]]
  have hk : Tryd.prog.keyLits (D + 2) 71 (kyv t) = (((List.range 32).mapM fun i => Tryd.prog.keyLits (D + 1) 5 (((kyv t).drop (i * 1)).take 1)).map List.flatten) := by
    rw [Program.keyLits]
    case heq => exact hu
    rw [if_pos (by rw [hl, hc]), hc1]
  rw [hk, mapM_yes (g := fun i => [Lit.int .u8 (t.data.toList.getD i 0).toNat]) (List.range 32) (fun i hi => hlit i (List.mem_range.1 hi))]
  rfl
/- What is held of an element: itself. -/
def valK (v : Value) : Option (DataW Value × List MemPlace) := some (.held v, [])
end Go.Proofs.YtchfpiadfmnphaaDoor
