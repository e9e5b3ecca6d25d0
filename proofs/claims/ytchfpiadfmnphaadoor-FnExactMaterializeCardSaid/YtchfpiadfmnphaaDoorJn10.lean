/- Variables of several cells (a struct, an array) that lie in a block of their own, as wholes; what the operations on them do. HashBegin of both sides; the laws' helpers eqHash, markHash, heldHash. The laws' helpers szInt64S, toInt64S, szHash, toHash: what they answer of a slice of numbers that came in. A slice of structs that a loop fills, one by one; a store into the middle of a block. szHash and toHash: what they answer of a Hash that came in. HashRight of both sides: one answer. Slices of texts: read where they lie; what the laws' helpers szStringS, toStringS, eqStringS answer. The laws' markText: what it tells of a number; all blocks but one. -/
import Derived.Test.YtchfpiadfmnphaaDoorIntRow
import Derived.Deep.MidRow
import Derived.Great.Ranges
import Derived.Lib.EndianMore
import Derived.OwnWalk
import Derived.Test.YtchfpiadfmnphaaDoorJn4
namespace Go.Proofs.YtchfpiadfmnphaaDoor
open Go.RowKit
set_option linter.unusedVariables false

structure RowV (w : World) (g : Nat) (l : List Value) : Prop where
  rng : w.rangeAt g 0 l
  ths : w.there g 0 l.length
theorem RowV.of_block {w : World} {g : Nat} {l : List Value} {t : TypeId} (h : w.heap[g]? = some (.cells l.toArray t (0, 0))) : RowV w g l := by
  refine ⟨fun j v hv => ?_, fun j hj => ⟨?_, ?_⟩⟩
  · simpa [World.cell?, h] using hv
  · simp [World.cell?, h, hj]
  · simp [World.frozen?, h]
theorem RowV.new (w : World) (l : List Value) (t : TypeId) : RowV (w.alloc (.cells l.toArray t)) w.heap.size l := RowV.of_block (heap_alloc_new w _)
theorem RowV.cell {w : World} {g : Nat} {l : List Value} (h : RowV w g l) {k : Nat} {v : Value} (hk : l[k]? = some v) : w.cell? ⟨g, k, none⟩ = some v := by
  have := h.rng k v hk
  rw [Nat.zero_add] at this
  exact this
theorem RowV.lt {w : World} {g : Nat} {l : List Value} (h : RowV w g l) (hl : l ≠ []) : g < w.heap.size := by
  cases l with
  | nil => exact absurd rfl hl
  | cons v r => exact cellLt (h.cell (k := 0) rfl)
theorem RowV.frozen {w : World} {g : Nat} {l : List Value} (h : RowV w g l) {k : Nat} (hk : k < l.length) : w.frozen? ⟨g, k, none⟩ = false := by
  have := (h.ths k hk).2
  rw [Nat.zero_add] at this
  exact this
theorem RowV.same {w w' : World} {g : Nat} {l : List Value} (h : RowV w g l) (hs : ∀ k, w'.cell? ⟨g, k, none⟩ = w.cell? ⟨g, k, none⟩ ∧ w'.frozen? ⟨g, k, none⟩ = w.frozen? ⟨g, k, none⟩) : RowV w' g l :=
  ⟨fun j v hv => (hs _).1.trans (h.rng j v hv), fun j hj => by rw [(hs _).1, (hs _).2]; exact h.ths j hj⟩
theorem RowV.below {w w' : World} {g B : Nat} {l : List Value} (h : RowV w g l) (hb : Below B w w') (hB : g < B) : RowV w' g l :=
  h.same fun k => ⟨hb.cell (p := ⟨g, k, none⟩) hB, hb.frozen (p := ⟨g, k, none⟩) hB⟩
theorem RowV.drew {w : World} {g : Nat} {l : List Value} (h : RowV w g l) : RowV w.drew g l := ⟨h.rng, h.ths⟩
theorem RowV.drewN {w : World} {g : Nat} {l : List Value} (h : RowV w g l) (n : Nat) : RowV (w.drewN n) g l := ⟨h.rng, h.ths⟩
theorem RowV.put {w : World} {g : Nat} {l l' : List Value} (h : RowV w g l) (hl : l'.length = l.length) : RowV (w.setCells g 0 l') g l' :=
  ⟨World.rangeAt_setCells_same w g 0 l' (by rw [hl]; exact h.ths), by rw [hl]; exact World.there_setCells h.ths g 0 l'⟩

theorem setCells_size (g : Nat) : ∀ (l : List Value) (o : Nat) (w : World), (w.setCells g o l).heap.size = w.heap.size
  | [], _, _ => rfl
  | v :: r, o, w => by rw [World.setCells, setCells_size g r, World.size_setCell]
theorem wpList_boxV {P : Program} {ops : Array Oper} {rest : List Oper} {o : Oper} {a : Act} {w : World} {Q : Exit → Act → World → Prop} (hg : o.guard = none) (t : TypeId) (x : Operand) (ho : o.op = .box t x) (l : List Value) (hx : a.eval x = .agg l.toArray)
    (h : ∀ w', RowV w' w.heap.size l → Below w.heap.size w w' → w'.heap.size = w.heap.size + 1 → wpList P ops Q rest (a.put o.dst (.pointer (some ⟨w.heap.size, 0, none⟩))) w') : wpList P ops Q (o :: rest) a w :=
  Great.wpList_boxTo hg t x ho o.dst rfl w.heap.size rfl l.toArray (by rw [hx]; rfl)
    (h _ (RowV.new w l t) ((Below.refl _ _).alloc (Nat.le_refl _) _) (Array.size_push _))
theorem wpList_allocV {P : Program} {ops : Array Oper} {rest : List Oper} {o : Oper} {a : Act} {w : World} {Q : Exit → Act → World → Prop} (hg : o.guard = none) (t : TypeId) (ho : o.op = .alloc t) (l : List Value)
    (hi : (P.info? t).map (fun i => i.zero) = some (some (.agg l.toArray)))
    (h : ∀ w', RowV w' w.heap.size l → Below w.heap.size w w' → w'.heap.size = w.heap.size + 1 → wpList P ops Q rest (a.put o.dst (.pointer (some ⟨w.heap.size, 0, none⟩))) w') : wpList P ops Q (o :: rest) a w := by
  refine wpList_plain hg fun K hK => ?_
  cases hq : P.info? t with
  | none => simp [hq] at hi
  | some i =>
    have hz : i.zero = some (.agg l.toArray) := by simpa [hq] using hi
    unfold Oper.wp execOp
    simp only [ho, Sem.run_bind, Instr.alloc, zeroValue, run_typeInfo w hq, hz, newVar, newRow, run_newObj_alloc, Sem.run_pure, Result.andThen_ok]
    exact hK _ _ (h _ (RowV.new w _ t) ((Below.refl _ _).alloc (Nat.le_refl _) _) (Array.size_push _))
theorem wpList_loadV {P : Program} {ops : Array Oper} {rest : List Oper} {o : Oper} {a : Act} {w : World} {Q : Exit → Act → World → Prop} (hg : o.guard = none) (t : TypeId) (x : Operand) (ho : o.op = .load t x) (g : Nat) (l : List Value)
    (hx : a.eval x = .pointer (some ⟨g, 0, none⟩)) (hl : RowV w g l) (hu : ∃ d, P.underlying t = some d ∧ d.isRow = true) (n : Nat) (hi : (P.info? t).map (·.size) = some n) (hn : l.length = n)
    (h : wpList P ops Q rest (a.put o.dst (.agg l.toArray)) w) : wpList P ops Q (o :: rest) a w := by
  obtain ⟨d, hd, hr⟩ := hu
  exact wpList_load_mid hg t x ho g 0 hx l d hl.rng hd hr (by rw [hn]; exact hi) h
theorem wpList_storeV {P : Program} {ops : Array Oper} {rest : List Oper} {o : Oper} {a : Act} {w : World} {Q : Exit → Act → World → Prop} (hg : o.guard = none) (t : TypeId) (x y : Operand) (ho : o.op = .store t x y) (g : Nat) (l l' : List Value)
    (hx : a.eval x = .pointer (some ⟨g, 0, none⟩)) (hy : a.eval y = .agg l'.toArray) (hl : RowV w g l) (n : Nat) (hi : (P.info? t).map (·.size) = some n) (hn : l.length = n) (hn' : l'.length = n) (h1 : ∀ v ∈ l', v.oneCell' = true)
    (h : ∀ w', RowV w' g l' → (∀ B, B ≤ g → Below B w w') → (∀ x : Addr, x.block ≠ g → w'.cell? x = w.cell? x ∧ w'.frozen? x = w.frozen? x) → w'.heap.size = w.heap.size → wpList P ops Q rest (a.put o.dst undef) w') : wpList P ops Q (o :: rest) a w := by
  subst hn
  refine wpList_store_mid hg t x y ho g 0 l'.toArray hx hy (by simp only [List.size_toArray, hn']; exact hl.ths) (by simp only [List.size_toArray, hn']; exact hi) (by rw [Array.all_eq_true_iff_forall_mem]; intro v hv; exact h1 v (by simpa using hv)) ?_
  refine h _ (hl.put hn') (fun B hB => Lib.below_setCells_w hB _ _ _) (fun x hx => ⟨World.cell?_setCells_out g _ _ _ x (fun e => absurd e hx), World.frozen?_setCells g _ _ _ x⟩) ?_
  exact setCells_size g _ 0 w
theorem results_V {P : Program} {fn : Func} {a : Tmp} {t : TypeId} {w : World} (h : fn.results = #[.cell a t]) (tmps : Array Value) (g : Nat) (l : List Value) (hx : tmps.getD a undef = .pointer (some ⟨g, 0, none⟩))
    (hl : RowV w g l) (hu : ∃ d, P.underlying t = some d ∧ d.isRow = true) (n : Nat) (hi : (P.info? t).map (·.size) = some n) (hn : l.length = n) : (results fn tmps).run P w = .ok (.agg l.toArray) w := by
  obtain ⟨d, hd, hr⟩ := hu
  have := run_loadVar_mid (P := P) w g 0 t l d hl.rng hd hr (by rw [hn]; exact hi)
  rw [Array.getD_eq_getD_getElem?] at hx
  simp [results, h, hx, asAddr, this]
end Go.Proofs.YtchfpiadfmnphaaDoor
namespace Go.Proofs.YtchfpiadfmnphaaDoor
open Go.RowKit
set_option linter.unusedVariables false

def hvs (a : Option Addr) (n c : Nat) (s : ByteArray) (z : Int) : List Value := [.slice a n c, .string s, .int .i64 z]
abbrev HVal (a : Option Addr) (n c : Nat) (s : ByteArray) (z : Int) : Value := .agg (hvs a n c s z).toArray
theorem hvs_one (a : Option Addr) (n c : Nat) (s : ByteArray) (z : Int) : ∀ v ∈ hvs a n c s z, v.oneCell' = true := by
  intro v hv
  simp [hvs] at hv
  rcases hv with h | h | h <;> (rw [h]; rfl)
def iv : List Int := [1779033703, 3144134277, 1013904242, 2773480762, 1359893119, 2600822924, 528734635, 1541459225]
theorem iv_length : iv.length = 8 := rfl
theorem IAt.of_block {w : World} {g : Nat} {l : List Int} {t : TypeId} (h : w.heap[g]? = some (.cells (l.map (Value.int .i64)).toArray t (0, 0))) : IAt w (some ⟨g, 0, none⟩) l := fun _ => by
  refine ⟨g, rfl, fun k hk => ⟨?_, ?_⟩⟩
  · simp [World.cell?, h, hk]
  · simp [World.frozen?, h]
theorem size_alloc (w : World) (o : Obj) : (w.alloc o).heap.size = w.heap.size + 1 := Array.size_push _
theorem two_alloc (w : World) (A : Obj) (l : List Int) (t : TypeId) : IAt ((w.alloc A).alloc (.cells (l.map (Value.int .i64)).toArray t)) (some ⟨w.heap.size + 1, 0, none⟩) l := by
  have h := heap_alloc_new (w.alloc A) (.cells (l.map (Value.int .i64)).toArray t)
  rw [size_alloc] at h
  exact IAt.of_block h
theorem Tryd.infoH : (Tryd.prog.info? 77).map (fun i => i.zero) = some (some (.agg (hvs none 0 0 ⟨#[]⟩ 0).toArray)) := by kernel_rfl
theorem Tryd.undH : ∃ d, Tryd.prog.underlying 77 = some d ∧ d.isRow = true := ⟨_, Tryd.underlying77, rfl⟩
theorem Tryd.sizeH : (Tryd.prog.info? 77).map (·.size) = some 3 := by kernel_rfl

set_option maxRecDepth 100000 in
set_option maxHeartbeats 1000000 in
theorem start_any (w : World) :
    Calls Tryd.prog 68 #[] w fun e w' => e = .returned (.slice (some ⟨w.heap.size, 0, none⟩) 8 8) ∧ IAt w' (some ⟨w.heap.size, 0, none⟩) iv ∧ Below w.heap.size w w' ∧ w'.heap.size = w.heap.size + 1 := by
  go_enter Tryd.func68, Tryd.ntmps68
  go_wp2
  go_ret
  refine ⟨rfl, ?_, (Below.refl _ _).alloc (Nat.le_refl _) _, size_alloc _ _⟩
  exact IAt.of_block (t := 2) (heap_alloc_new w _)
set_option maxRecDepth 100000 in
set_option maxHeartbeats 1000000 in
theorem beginI_any (w : World) :
    Calls Tryd.prog 62 #[] w fun e w' => ∃ g, e = .returned (HVal (some ⟨g, 0, none⟩) 8 8 ⟨#[]⟩ 0) ∧ w.heap.size ≤ g ∧ g < w'.heap.size ∧ IAt w' (some ⟨g, 0, none⟩) iv ∧ Below w.heap.size w w' := by
  go_enter Tryd.func62, Tryd.ntmps62
  go_wp2
  refine bodyPost_ret (v := HVal (some ⟨w.heap.size + 1, 0, none⟩) 8 8 ⟨#[]⟩ 0) (by simp [results, Tryd.results62, go_sem, HVal, hvs]) rfl ⟨w.heap.size + 1, rfl, by omega, by rw [size_alloc, size_alloc]; omega, ?_, ((Below.refl _ _).alloc (Nat.le_refl _) _).alloc (by rw [size_alloc]; omega) _⟩
  exact two_alloc w _ iv 2
set_option maxRecDepth 100000 in
set_option maxHeartbeats 1000000 in
theorem beginS_any (w : World) :
    Calls Tryd.prog 49 #[] w fun e w' => ∃ g, e = .returned (HVal (some ⟨g, 0, none⟩) 8 8 ⟨#[]⟩ 0) ∧ w.heap.size ≤ g ∧ g < w'.heap.size ∧ IAt w' (some ⟨g, 0, none⟩) iv ∧ Below w.heap.size w w' := by
  go_enter Tryd.func49, Tryd.ntmps49
  go_wp2_with (first
    | (with_reducible refine wpList_allocV (w := w) (by with_unfolding_all rfl) 77 (by with_unfolding_all rfl) (hvs none 0 0 ⟨#[]⟩ 0) Tryd.infoH ?_; intro w1 hA1 hB1 hS1)
    | (go_at_call 68; refine (start_any _).mono ?_; rintro e w2 ⟨rfl, h2, hB2, hS2⟩)
    | (with_reducible refine wpList_storeV (w := w2) (by with_unfolding_all rfl) 77 (.tmp 0) (.tmp 2) (by with_unfolding_all rfl) w.heap.size (hvs none 0 0 ⟨#[]⟩ 0) (hvs (some ⟨w.heap.size + 1, 0, none⟩) 8 8 ⟨#[]⟩ 0) (by with_unfolding_all rfl) (by with_unfolding_all rfl) (hA1.below hB2 (by omega)) 3 Tryd.sizeH (by with_unfolding_all rfl) (by with_unfolding_all rfl) (hvs_one _ _ _ _ _) ?_; intro w3 hA3 hB3 hF3 hS3))
  rw [hS1] at h2
  refine bodyPost_ret (results_V (t := 77) rfl _ w.heap.size _ rfl hA3 Tryd.undH 3 Tryd.sizeH rfl) rfl ⟨w.heap.size + 1, rfl, by omega, by omega, ?_, (hB1.trans (hB2.mono (by omega))).trans (hB3 _ (Nat.le_refl _))⟩
  intro hne
  obtain ⟨g, hg, hc⟩ := h2 hne
  refine ⟨g, hg, fun k hk => ?_⟩
  injection hg with hg
  injection hg with hg
  have := hF3 ⟨g, k, none⟩ (by show g ≠ w.heap.size; omega)
  exact ⟨this.1.trans (hc k hk).1, this.2.trans (hc k hk).2⟩

/- Everything that was there but the row is as it was. -/
structure WroteOld (a : Option Addr) (w w' : World) : Prop where
  far : ∀ x : Addr, x.block < w.heap.size → (∀ ad, a = some ad → x.block ≠ ad.block) → w'.cell? x = w.cell? x ∧ w'.frozen? x = w.frozen? x
  below : ∀ B, B ≤ w.heap.size → (∀ ad, a = some ad → B ≤ ad.block) → Below B w w'
  size : w.heap.size ≤ w'.heap.size
theorem WroteOld.row {a : Option Addr} {w w' : World} (h : WroteOld a w w') {g : Nat} {l : List Value} (hr : RowV w g l) (hg : g < w.heap.size) (hne : ∀ ad, a = some ad → g ≠ ad.block) : RowV w' g l :=
  hr.same fun k => h.far ⟨g, k, none⟩ hg hne
theorem WroteOld.irow {a : Option Addr} {w w' : World} (h : WroteOld a w w') {b : Option Addr} {l : List Int} (hr : IAt w b l) (hne : ∀ ad bd, a = some ad → b = some bd → bd.block ≠ ad.block) : IAt w' b l := fun hl => by
  obtain ⟨g, hg, hc⟩ := hr hl
  refine ⟨g, hg, fun k hk => ?_⟩
  have := h.far ⟨g, k, none⟩ (cellLt (hc k hk).1) (fun ad ha => hne ad ⟨g, 0, none⟩ ha hg)
  exact ⟨this.1.trans (hc k hk).1, this.2.trans (hc k hk).2⟩

/- Two variables that hold a Hash each, and their rows. -/
structure St (w : World) (b1 b2 g1 g2 : Nat) (l2 : List Int) : Prop where
  v1 : RowV w b1 (hvs (some ⟨g1, 0, none⟩) 8 8 ⟨#[]⟩ 0)
  v2 : RowV w b2 (hvs (some ⟨g2, 0, none⟩) 8 8 ⟨#[]⟩ 0)
  i1 : IAt w (some ⟨g1, 0, none⟩) iv
  i2 : IAt w (some ⟨g2, 0, none⟩) l2
theorem hvs_ne (a : Option Addr) (n c : Nat) (s : ByteArray) (z : Int) : hvs a n c s z ≠ [] := by simp [hvs]
theorem St.below {w w' : World} {b1 b2 g1 g2 : Nat} {l2 : List Int} (h : St w b1 b2 g1 g2 l2) (hb : Below w.heap.size w w') : St w' b1 b2 g1 g2 l2 :=
  ⟨h.v1.below hb (h.v1.lt (hvs_ne _ _ _ _ _)), h.v2.below hb (h.v2.lt (hvs_ne _ _ _ _ _)), h.i1.below hb, h.i2.below hb⟩
theorem St.marked {w w' : World} {b1 b2 g1 g2 : Nat} {l2 l3 : List Int} (h : St w b1 b2 g1 g2 l2) (hw : WroteOld (some ⟨g2, 0, none⟩) w w') (hi : IAt w' (some ⟨g2, 0, none⟩) l3) (n1 : b1 ≠ g2) (n2 : b2 ≠ g2) (n3 : g1 ≠ g2) : St w' b1 b2 g1 g2 l3 :=
  ⟨hw.row h.v1 (h.v1.lt (hvs_ne _ _ _ _ _)) (fun ad e => by injection e with e; subst e; exact n1), hw.row h.v2 (h.v2.lt (hvs_ne _ _ _ _ _)) (fun ad e => by injection e with e; subst e; exact n2),
    hw.irow h.i1 (fun ad bd e1 e2 => by injection e1 with e1; injection e2 with e2; subst e1; subst e2; exact n3), hi⟩
end Go.Proofs.YtchfpiadfmnphaaDoor
namespace Go.Proofs.YtchfpiadfmnphaaDoor
open Go.RowKit
set_option linter.unusedVariables false

def AI (w : World) (a : Option Addr) (l : List Int) : Prop := ∀ k (h : k < l.length), ∃ b o, a = some ⟨b, o, none⟩ ∧ w.cell? ⟨b, o + k, none⟩ = some (.int .i64 l[k])
theorem AI.below {w w' : World} {a : Option Addr} {l : List Int} (h : AI w a l) (hb : Below w.heap.size w w') : AI w' a l := fun k hk => by
  obtain ⟨b, o, ha, hc⟩ := h k hk
  exact ⟨b, o, ha, (hb.cell (p := ⟨b, o + k, none⟩) (cellLt hc)).trans hc⟩
theorem IAt.set {w : World} {g k : Nat} {l l' : List Int} {x : Int} (h : IAt w (some ⟨g, 0, none⟩) l) (hk : k < l.length) (hl : l' = l.set k x) : IAt (w.setCell ⟨g, k, none⟩ (.int .i64 x)) (some ⟨g, 0, none⟩) l' := fun _ => by
  subst hl
  obtain ⟨g', hg', hc⟩ := h (by intro e; rw [e] at hk; simp at hk)
  injection hg' with hg'
  injection hg' with hg'
  subst hg'
  refine ⟨g, rfl, fun j hj => ?_⟩
  have hj' : j < l.length := by simpa using hj
  rw [World.frozen?_setCell]
  refine ⟨?_, (hc j hj').2⟩
  by_cases hjk : j = k
  · subst hjk
    rw [World.cell?_setCell_same w _ _ (hc j hk).1]
    simp
  · rw [World.cell?_setCell_other w _ _ _ (by intro e; injection e with _ e _; exact hjk e.symm), (hc j hj').1]
    rw [List.getElem_set_ne (fun e => hjk e.symm)]
theorem RowV.setAt {w : World} {g k : Nat} {l l' : List Value} {v : Value} (h : RowV w g l) (hk : k < l.length) (hl : l' = l.set k v) : RowV (w.setCell ⟨g, k, none⟩ v) g l' := by
  subst hl
  obtain ⟨u, hu⟩ : ∃ u, w.cell? ⟨g, k, none⟩ = some u := ⟨l[k], h.cell (List.getElem?_eq_getElem hk)⟩
  refine ⟨fun j x hx => ?_, fun j hj => ⟨?_, ?_⟩⟩
  · rw [Nat.zero_add]
    by_cases hjk : j = k
    · subst hjk
      rw [World.cell?_setCell_same w _ _ hu]
      simpa [hk] using hx
    · rw [World.cell?_setCell_other w _ _ _ (by intro e; injection e with _ e _; exact hjk e.symm)]
      exact h.cell (by rw [← hx, List.getElem?_set_ne (fun e => hjk e.symm)])
  · rw [Nat.zero_add]
    by_cases hjk : j = k
    · subst hjk
      rw [World.cell?_setCell_same w _ _ hu]; rfl
    · rw [World.cell?_setCell_other w _ _ _ (by intro e; injection e with _ e _; exact hjk e.symm)]
      have := (h.ths j (by simpa using hj)).1
      rw [Nat.zero_add] at this
      exact this
  · rw [World.frozen?_setCell]
    exact (h.ths j (by simpa using hj)).2
theorem Tryd.infoNum : (Tryd.prog.info? 2).map (fun i => (i.zero, i.size, i.bytes)) = some (some (.int .i64 0), 1, 8) := by kernel_rfl
theorem made_zeroI (n : Nat) : (madeCells #[Value.int .i64 0] n).toList = (List.replicate n (0 : Int)).map (Value.int .i64) := by
  apply List.ext_getElem
  · simp [madeCells]
  · intro i h1 h2
    simp [madeCells, Nat.mod_one]
theorem IAt.made {w : World} {base e g n : Nat} {xs : List Value} (h : w.ownsRow base e 1 (.slice (some ⟨g, 0, none⟩) n n) n xs) (hx : xs = (List.replicate n (0 : Int)).map (Value.int .i64)) : IAt w (some ⟨g, 0, none⟩) (List.replicate n 0) := by
  rcases h.2 with ⟨h1, _⟩ | ⟨g', cap, cur, hv, hbg, hg, hnc, hcm, hcs, htake⟩
  · simp at h1
  · simp at hv
    obtain ⟨rfl, rfl⟩ := hv
    have : cur.toList = xs := by rw [← htake, List.take_of_length_le (by simp [hcs])]
    refine IAt.of_block (t := e) ?_
    rw [hg, ← hx, ← this]
theorem copy_set (l : List Int) {k : Nat} (hk : k < l.length) : l.take (k + 1) ++ List.replicate (l.length - (k + 1)) 0 = (l.take k ++ List.replicate (l.length - k) 0).set k l[k] := by
  rw [List.set_append_right _ _ (by rw [List.length_take]; omega), List.length_take, Nat.min_eq_left (by omega), Nat.sub_self]
  obtain ⟨d, hd⟩ : ∃ d, l.length - k = d + 1 := ⟨l.length - k - 1, by omega⟩
  rw [hd, show l.length - (k + 1) = d by omega, List.replicate_succ, List.set_cons_zero, List.take_succ_eq_append_getElem hk, List.append_assoc]
  rfl

end Go.Proofs.YtchfpiadfmnphaaDoor
namespace Go.Proofs.YtchfpiadfmnphaaDoor
open Go.RowKit
set_option linter.unusedVariables false

/- Of n elements of s cells each, in block g, the first d are as L says; all may be written. -/
structure BldV (w : World) (g s n : Nat) (L : List (List Value)) (d : Nat) : Prop where
  ths : w.there g 0 (n * s)
  rng : ∀ i (h : i < L.length), i < d → w.rangeAt g (i * s) L[i]
theorem BldV.same {w w' : World} {g s n : Nat} {L : List (List Value)} {d : Nat} (h : BldV w g s n L d) (hs : ∀ k, w'.cell? ⟨g, k, none⟩ = w.cell? ⟨g, k, none⟩ ∧ w'.frozen? ⟨g, k, none⟩ = w.frozen? ⟨g, k, none⟩) : BldV w' g s n L d :=
  ⟨fun j hj => by rw [(hs _).1, (hs _).2]; exact h.ths j hj, fun i hi hid j v hv => by rw [(hs _).1]; exact h.rng i hi hid j v hv⟩
theorem BldV.below {w w' : World} {g s n B : Nat} {L : List (List Value)} {d : Nat} (h : BldV w g s n L d) (hb : Below B w w') (hB : g < B) : BldV w' g s n L d :=
  h.same fun k => ⟨hb.cell (p := ⟨g, k, none⟩) hB, hb.frozen (p := ⟨g, k, none⟩) hB⟩
theorem there_part {w : World} {g s n d : Nat} (h : w.there g 0 (n * s)) (hd : d < n) : w.there g (d * s) s := fun j hj => by
  have := h (d * s + j) (by have : (d + 1) * s ≤ n * s := Nat.mul_le_mul_right s hd; rw [Nat.add_mul, Nat.one_mul] at this; omega)
  rw [Nat.zero_add] at this
  exact this
theorem BldV.step {w : World} {g s n : Nat} {L : List (List Value)} {d : Nat} (h : BldV w g s n L d) (hd : d < n) (hL : d < L.length) (hs : ∀ l ∈ L, l.length = s) : BldV (w.setCells g (d * s) L[d]) g s n L (d + 1) := by
  refine ⟨World.there_setCells h.ths _ _ _, fun i hi hid => ?_⟩
  by_cases he : i = d
  · subst he
    refine World.rangeAt_setCells_same w g _ _ ?_
    rw [hs _ (List.getElem_mem hi)]
    exact there_part h.ths hd
  · have hid' : i < d := by omega
    refine World.rangeAt_setCells_apart (h.rng i hi hid') _ _ _ (.inr (.inl ?_))
    rw [hs _ (List.getElem_mem hi)]
    have : (i + 1) * s ≤ d * s := Nat.mul_le_mul_right s hid'
    rw [Nat.add_mul, Nat.one_mul] at this
    exact this
theorem BldV.made {w : World} {base e g s n : Nat} {xs : List Value} {L : List (List Value)} (h : w.ownsRow base e s (.slice (some ⟨g, 0, none⟩) n n) n xs) : BldV w g s n L 0 := by
  rcases h.2 with ⟨h1, _⟩ | ⟨g', cap, cur, hv, hbg, hg, hnc, hcm, hcs, htake⟩
  · simp at h1
  · simp at hv
    obtain ⟨rfl, rfl⟩ := hv
    refine ⟨fun j hj => ?_, fun i _ h0 => absurd h0 (Nat.not_lt_zero _)⟩
    rw [Nat.zero_add]
    have hjc : j < cur.size := by rw [hcs]; exact hj
    exact ⟨by simp [World.cell?, hg, hjc], by simp [World.frozen?, hg]⟩
theorem below_alloc (w : World) (o : Obj) : Below w.heap.size w (w.alloc o) := (Below.refl _ _).alloc (Nat.le_refl _) _
theorem below_set {w : World} {B g o : Nat} {l : List Value} (h : B ≤ g) : Below B w (w.setCells g o l) := Lib.below_setCells_w h _ _ _
theorem szA (w : World) (o : Obj) : (w.alloc o).heap.size = w.heap.size + 1 := Array.size_push _
theorem wpList_storeAt {P : Program} {ops : Array Oper} {rest : List Oper} {o : Oper} {a : Act} {w : World} {Q : Exit → Act → World → Prop} (hg : o.guard = none) (t : TypeId) (x y : Operand) (ho : o.op = .store t x y) (g p n : Nat) (l : List Value)
    (hx : a.eval x = .pointer (some ⟨g, p, none⟩)) (hy : a.eval y = .agg l.toArray) (hl : w.there g p n) (hi : (P.info? t).map (·.size) = some n) (hn : l.length = n) (h1 : ∀ v ∈ l, v.oneCell' = true)
    (h : wpList P ops Q rest (a.put o.dst undef) (w.setCells g p l)) : wpList P ops Q (o :: rest) a w := by
  subst hn
  exact wpList_store_mid hg t x y ho g p l.toArray hx hy (by simp only [List.size_toArray]; exact hl) (by simp only [List.size_toArray]; exact hi) (by rw [Array.all_eq_true_iff_forall_mem]; intro v hv; exact h1 v (by simpa using hv)) h
def plainV : Value → Bool
  | .int _ _ => true
  | .string _ => true
  | .slice _ _ _ => true
  | _ => false
theorem wpList_cellV {P : Program} {ops : Array Oper} {rest : List Oper} {o : Oper} {a : Act} {w : World} {Q : Exit → Act → World → Prop} (hg : o.guard = none) (t : TypeId) (x y : Operand) (ho : o.op = .store t x y) (g k : Nat) (l l' : List Value) (v : Value)
    (hx : a.eval x = .pointer (some ⟨g, k, none⟩)) (hy : a.eval y = v) (hp : plainV v = true) (hi : (P.info? t).map (·.size) = some 1) (hl : RowV w g l) (hk : k < l.length) (hl' : l' = l.set k v)
    (h : ∀ w', RowV w' g l' → (∀ B, B ≤ g → Below B w w') → (∀ x : Addr, x.block ≠ g → w'.cell? x = w.cell? x ∧ w'.frozen? x = w.frozen? x) → w'.heap.size = w.heap.size → wpList P ops Q rest (a.put o.dst undef) w') : wpList P ops Q (o :: rest) a w := by
  refine wpList_plain hg fun K hK => ?_
  have hc : w.cell? ⟨g, k, none⟩ = some l[k] := hl.cell (List.getElem?_eq_getElem hk)
  have hf : w.frozen? ⟨g, k, none⟩ = false := hl.frozen hk
  have hh := h _ (hl.setAt hk hl') (fun B hB => (Below.refl B w).setCell hB v) (fun x hx => ⟨World.cell?_setCell_other w _ _ v (by intro e; rw [← e] at hx; exact hx rfl), World.frozen?_setCell ..⟩) (World.size_setCell ..)
  generalize l[k] = u at hc
  obtain ⟨ti, hti, hts⟩ := Option.map_eq_some_iff.1 hi
  cases v with
  | int kd n =>
    simp only [Oper.wp, execOp, ho, hx, hy, Instr.storeAt, Instr.sureAddr, Sem.run_bind, Sem.run_pure, Result.andThen_ok]
    simp [go_sem, hc, hf, hti, hts, storeCells, sizeOf, typeInfo]
    exact hK _ _ hh
  | string s =>
    simp only [Oper.wp, execOp, ho, hx, hy, Instr.storeAt, Instr.sureAddr, Sem.run_bind, Sem.run_pure, Result.andThen_ok]
    simp [go_sem, hc, hf, hti, hts, storeCells, sizeOf, typeInfo]
    exact hK _ _ hh
  | slice p n c =>
    simp only [Oper.wp, execOp, ho, hx, hy, Instr.storeAt, Instr.sureAddr, Sem.run_bind, Sem.run_pure, Result.andThen_ok]
    simp [go_sem, hc, hf, hti, hts, storeCells, sizeOf, typeInfo]
    exact hK _ _ hh
  | _ => simp [plainV] at hp
theorem same_far {w w' : World} {x : Addr} (h : w'.heap[x.block]? = w.heap[x.block]?) : w'.cell? x = w.cell? x ∧ w'.frozen? x = w.frozen? x := by
  unfold World.cell? World.frozen?
  rw [h]
  exact ⟨rfl, rfl⟩
theorem hidP {P : Prop} (h : P) : Hid P := h
theorem Tryd.siz1I : (Tryd.prog.info? 2).map (·.size) = some 1 := by kernel_rfl
theorem wanted_free {o : Oper} {y : Nat → Option Bool} (h : o.guard = none) : Region.wanted o y = true := by simp [Region.wanted, h]
end Go.Proofs.YtchfpiadfmnphaaDoor
namespace Go.Proofs.YtchfpiadfmnphaaDoor
open Go.RowKit
set_option linter.unusedVariables false
theorem RowV.far {w : World} {g b k : Nat} {l : List Value} {v : Value} (h : RowV w g l) (hne : g ≠ b) : RowV (w.setCell ⟨b, k, none⟩ v) g l :=
  h.same fun j => ⟨World.cell?_setCell_other w _ _ v (by intro e; injection e with e _ _; exact hne e.symm), World.frozen?_setCell ..⟩
theorem IAt.far {w : World} {g b k : Nat} {l : List Int} {v : Value} (h : IAt w (some ⟨g, 0, none⟩) l) (hne : g ≠ b) : IAt (w.setCell ⟨b, k, none⟩ v) (some ⟨g, 0, none⟩) l := fun hl => by
  obtain ⟨g', hg', hc⟩ := h hl
  injection hg' with hg'
  injection hg' with hg'
  subst hg'
  exact ⟨g, rfl, fun j hj => ⟨(World.cell?_setCell_other w _ _ v (by intro e; injection e with e _ _; exact hne e.symm)).trans (hc j hj).1, by rw [World.frozen?_setCell]; exact (hc j hj).2⟩⟩
def room (n m : Nat) : Int := if n ≤ 1048576 ∧ n + m ≤ 1048576 then 1048576 - n - m else -1
end Go.Proofs.YtchfpiadfmnphaaDoor
namespace Go.Proofs.YtchfpiadfmnphaaDoor
open Go.RowKit
set_option linter.unusedVariables false

def okN (x : Int) : Prop := 0 ≤ x ∧ x ≤ 4294967295
def Right (l : List Int) (s : ByteArray) (z : Int) : Prop := l.length = 8 ∧ 0 ≤ z ∧ z ≤ 1099511627776 ∧ (s.size : Int) = z.tmod 64 ∧ ∀ x ∈ l, okN x
def rightB (l : List Int) (s : ByteArray) (z : Int) : Bool := decide (l.length = 8 ∧ 0 ≤ z ∧ z ≤ 1099511627776 ∧ (s.size : Int) = z.tmod 64 ∧ ∀ x ∈ l, 0 ≤ x ∧ x ≤ 4294967295)
theorem right_yes {l : List Int} {s : ByteArray} {z : Int} (h : Right l s z) : rightB l s z = true := decide_eq_true h
theorem right_no {l : List Int} {s : ByteArray} {z : Int} (h : ¬ Right l s z) : rightB l s z = false := decide_eq_false h
theorem right_of {l : List Int} {s : ByteArray} {z : Int} (h : rightB l s z = true) : Right l s z := by have h2 := of_decide_eq_true (show decide (l.length = 8 ∧ 0 ≤ z ∧ z ≤ 1099511627776 ∧ (s.size : Int) = z.tmod 64 ∧ ∀ x ∈ l, 0 ≤ x ∧ x ≤ 4294967295) = true from h); exact h2
theorem ret_bool {a b : Bool} (h : a = b) : Ending.returned (.bool a) = .returned (.bool b) := by rw [h]
theorem take_all {l : List Int} {k : Nat} (hk : k < l.length) (h : ∀ x ∈ l.take k, okN x) (hx : okN l[k]) : ∀ x ∈ l.take (k + 1), okN x := by
  intro x hx'
  rw [List.take_succ_eq_append_getElem hk] at hx'
  rcases List.mem_append.1 hx' with h1 | h1
  · exact h x h1
  · simp at h1; subst h1; exact hx

set_option maxRecDepth 100000 in
set_option maxHeartbeats 1000000 in
theorem rightI_any (a : Option Addr) (c n : Nat) (l : List Int) (s : ByteArray) (z : Int) (w : World) (hn : l.length = n) (h : IAt w a l) (hb : n ≤ 1000000000) (hs : s.size ≤ maxLen) :
    Calls Tryd.prog 86 #[HVal a n c s z] w fun e w' => e = .returned (.bool (rightB l s z)) ∧ Below w.heap.size w w' := by
  unfold maxLen at hs
  have HI : Hid (IAt w a l) := h
  have HN : Hid (l.length = n) := hn
  have HB : Hid (∀ w1, RowV w1 w.heap.size (hvs a n c s z) → w1.cell? ⟨w.heap.size, 0, none⟩ = some (.slice a n c) ∧ w1.cell? ⟨w.heap.size, 1, none⟩ = some (.string s) ∧ w1.cell? ⟨w.heap.size, 2, none⟩ = some (.int .i64 z)) := fun w1 h => ⟨h.cell (k := 0) rfl, h.cell (k := 1) rfl, h.cell (k := 2) rfl⟩
  clear h hn
  by_cases h8 : n = 8
  · subst h8
    by_cases hz0 : z < 0
    · have HF : Hid (True → rightB l s z = false) := fun _ => right_no (fun e => by have := e.2.1; omega)
      go_enter Tryd.func86, Tryd.ntmps86
      go_wp2_with (first | (with_reducible refine wpList_boxV (w := w) (by with_unfolding_all rfl) 77 (.tmp 0) (by with_unfolding_all rfl) (hvs a 8 c s z) (by with_unfolding_all rfl) ?_; intro w1 hA1 hB1 hS1; obtain ⟨p0, p1, p2⟩ := HB.out w1 hA1))
      go_ret
      exact ⟨ret_bool (HF.out trivial).symm, hB1⟩
    by_cases hz1 : 1099511627776 < z
    · have HF : Hid (True → rightB l s z = false) := fun _ => right_no (fun e => by have := e.2.2.1; omega)
      go_enter Tryd.func86, Tryd.ntmps86
      go_wp2_with (first | (with_reducible refine wpList_boxV (w := w) (by with_unfolding_all rfl) 77 (.tmp 0) (by with_unfolding_all rfl) (hvs a 8 c s z) (by with_unfolding_all rfl) ?_; intro w1 hA1 hB1 hS1; obtain ⟨p0, p1, p2⟩ := HB.out w1 hA1))
      go_ret
      exact ⟨ret_bool (HF.out trivial).symm, hB1⟩
    have HT : Hid ((∀ x ∈ l, okN x) → rightB l s z = decide ((s.size : Int) = z.tmod 64)) := fun hall => by
      by_cases he : (s.size : Int) = z.tmod 64
      · rw [decide_eq_true he]; exact right_yes ⟨HN.out, by omega, by omega, he, hall⟩
      · rw [decide_eq_false he]; exact right_no (fun e => he e.2.2.2.1)
    have HF : Hid (∀ x ∈ l, ¬ okN x → rightB l s z = false) := fun x hx hk => right_no (fun e => hk (e.2.2.2.2 x hx))
    go_enter Tryd.func86, Tryd.ntmps86
    go_wp2_with (first | (with_reducible refine wpList_boxV (w := w) (by with_unfolding_all rfl) 77 (.tmp 0) (by with_unfolding_all rfl) (hvs a 8 c s z) (by with_unfolding_all rfl) ?_; intro w1 hA1 hB1 hS1; obtain ⟨p0, p1, p2⟩ := HB.out w1 hA1))
    have HI1 : Hid (IAt w1 a l) := HI.out.below hB1
    have HB1 : Hid (Below w.heap.size w w1) := hB1
    clear HB HI hA1 hB1 hS1
    go_loopw [22] (fun i wr => ∃ k : Nat, i = .int .i64 (k : Int) ∧ k ≤ 8 ∧ (∀ x ∈ l.take k, okN x) ∧ wr = w1) (fun i _ => 8 - (intOf i).toNat)
    case atStart => exact ⟨0, rfl, Nat.zero_le _, fun x h => by simp at h, rfl⟩
    case round =>
      obtain ⟨k, rfl, hk, hall, rfl⟩ := hrel
      have HA : Hid (∀ x ∈ l.take k, okN x) := hall
      clear hall
      by_cases hlt : k < 8
      · have hkl : k < l.length := by have := HN.out; omega
        obtain ⟨g, rfl, hc⟩ := HI1.out (by intro e; rw [e] at hkl; simp at hkl)
        have d := (hc k hkl).1
        have HX : Hid (l[k] ∈ l) := List.getElem_mem hkl
        have HNx : Hid (okN l[k] → ∀ x ∈ l.take (k + 1), okN x) := fun h => take_all hkl HA.out h
        generalize l[k] = x at *
        have lk : (k : Int) < 8 := by omega
        have l0 : (0 : Int) ≤ k := by omega
        clear hc hkl
        by_cases hx0 : x < 0
        · have HF2 : Hid (True → rightB l s z = false) := fun _ => HF.out x HX.out (fun e => by have := e.1; omega)
          go_wp2
          go_ret
          exact ⟨ret_bool (HF2.out trivial).symm, HB1.out⟩
        by_cases hx1 : 4294967295 < x
        · have HF2 : Hid (True → rightB l s z = false) := fun _ => HF.out x HX.out (fun e => by have := e.2; omega)
          go_wp2
          go_ret
          exact ⟨ret_bool (HF2.out trivial).symm, HB1.out⟩
        have HO : Hid (okN x) := ⟨by omega, by omega⟩
        go_wp2
        go_roundw
        case rel => exact ⟨k + 1, by go_num, hlt, HNx.out HO.out, trivial⟩
        case measure => simp [intOf]; omega
      · obtain rfl : k = 8 := by omega
        have HD : Hid (True → rightB l s z = decide ((s.size : Int) = z.tmod 64)) := fun _ => HT.out (by have := HA.out; rw [List.take_of_length_le (by have := HN.out; omega)] at this; exact this)
        go_wp2
        go_ret
        refine ⟨?_, HB1.out⟩
        refine ret_bool ?_
        rw [HD.out trivial, Int.tmod_eq_emod_of_nonneg (by omega)]
        by_cases he : (s.size : Int) = z % 64 <;> simp [he]
  · have HF : Hid (True → rightB l s z = false) := fun _ => right_no (fun e => h8 (by have := e.1; have := HN.out; omega))
    have h8' : ((n : Int) == 8) = false := by simp; omega
    have h8'' : ((n : Int) != 8) = true := by simp; omega
    go_enter Tryd.func86, Tryd.ntmps86
    go_wp2_with (first | (with_reducible refine wpList_boxV (w := w) (by with_unfolding_all rfl) 77 (.tmp 0) (by with_unfolding_all rfl) (hvs a n c s z) (by with_unfolding_all rfl) ?_; intro w1 hA1 hB1 hS1; obtain ⟨p0, p1, p2⟩ := HB.out w1 hA1))
    go_ret
    exact ⟨ret_bool (HF.out trivial).symm, hB1⟩
end Go.Proofs.YtchfpiadfmnphaaDoor
namespace Go.Proofs.YtchfpiadfmnphaaDoor
open Go.RowKit
set_option linter.unusedVariables false

def SA (w : World) (a : Option Addr) (l : List ByteArray) : Prop := ∀ k (h : k < l.length), ∃ b o, a = some ⟨b, o, none⟩ ∧ w.cell? ⟨b, o + k, none⟩ = some (.string l[k])
theorem SA.below {w w' : World} {a : Option Addr} {l : List ByteArray} (h : SA w a l) (hb : Below w.heap.size w w') : SA w' a l := fun k hk => by
  obtain ⟨b, o, ha, hc⟩ := h k hk
  exact ⟨b, o, ha, (hb.cell (p := ⟨b, o + k, none⟩) (cellLt hc)).trans hc⟩
theorem SA.drew {w : World} {a : Option Addr} {l : List ByteArray} (h : SA w a l) : SA w.drew a l := h
theorem SA.drewN {w : World} {a : Option Addr} {l : List ByteArray} (h : SA w a l) (n : Nat) : SA (w.drewN n) a l := h
theorem SA.nil (w : World) (a : Option Addr) : SA w a [] := fun k h => absurd h (Nat.not_lt_zero _)
theorem SA.take {w : World} {a : Option Addr} {l : List ByteArray} (h : SA w a l) (n : Nat) : SA w a (l.take n) := fun k hk => by
  have hk' : k < l.length := by rw [List.length_take] at hk; omega
  obtain ⟨b, o, ha, hc⟩ := h k hk'
  exact ⟨b, o, ha, by rw [hc, List.getElem_take]⟩
theorem SA.drop {w : World} {b o : Nat} {l : List ByteArray} (h : SA w (some ⟨b, o, none⟩) l) (n : Nat) : SA w (some ⟨b, o + n, none⟩) (l.drop n) := fun k hk => by
  have hk' : n + k < l.length := by rw [List.length_drop] at hk; omega
  obtain ⟨b', o', ha, hc⟩ := h (n + k) hk'
  injection ha with ha
  injection ha with h1 h2
  subst h1 h2
  exact ⟨b, o + n, rfl, by rw [Nat.add_assoc, hc, List.getElem_drop]⟩
theorem SA.base {w : World} {a : Option Addr} {l : List ByteArray} (h : SA w a l) (hl : 1 ≤ l.length) : ∃ b o, a = some ⟨b, o, none⟩ := by
  obtain ⟨b, o, ha, _⟩ := h 0 hl
  exact ⟨b, o, ha⟩
/- A row of texts in a block of its own. -/
def svl (l : List ByteArray) : List Value := l.map Value.string
theorem svl_length (l : List ByteArray) : (svl l).length = l.length := List.length_map _
theorem svl_get {l : List ByteArray} {k : Nat} (h : k < l.length) : (svl l)[k]? = some (.string l[k]) := by unfold svl; rw [List.getElem?_map, List.getElem?_eq_getElem h]; rfl
theorem svl_set (l : List ByteArray) (k : Nat) (x : ByteArray) : (svl l).set k (.string x) = svl (l.set k x) := by unfold svl; rw [List.map_set]
theorem RowV.sa {w : World} {g : Nat} {l : List ByteArray} (h : RowV w g (svl l)) : SA w (some ⟨g, 0, none⟩) l := fun k hk => ⟨g, 0, rfl, by rw [Nat.zero_add]; exact h.cell (svl_get hk)⟩

theorem retZ {k : IntKind} {a b : Int} (h : a = b) : Ending.returned (.int k a) = .returned (.int k b) := by rw [h]
theorem retY {a b : Bool} (h : a = b) : Ending.returned (.bool a) = .returned (.bool b) := by rw [h]
/- Texts are compared byte by byte. -/
theorem txt_eq (x : ByteArray) : (x.toList == x.toList) = true := by simp
theorem txt_ne {x y : ByteArray} (h : ¬ x = y) : (x.toList == y.toList) = false := by
  refine beq_eq_false_iff_ne.2 fun e => h ?_
  rw [ByteArray.toList_eq, ByteArray.toList_eq] at e
  exact ByteArray.ext (Array.ext' e)
/- The room that texts take. -/
def roomS : List ByteArray → Int → Int
  | [], q => q
  | x :: l, q => if q - x.size < 0 then -1 else roomS l (q - x.size)
def roomL (l : List ByteArray) : Int := if 1048576 - (l.length : Int) < 0 then -1 else roomS l (1048576 - (l.length : Int))
theorem roomS_le : ∀ (l : List ByteArray) (q : Int), 0 ≤ roomS l q → ∀ x ∈ l, (x.size : Int) ≤ q
  | [], q, _, x, hx => by simp at hx
  | y :: l, q, h, x, hx => by
    rw [roomS] at h
    by_cases hy : q - y.size < 0
    · rw [if_pos hy] at h; omega
    · rw [if_neg hy] at h
      rcases List.mem_cons.1 hx with rfl | hx
      · omega
      · have := roomS_le l _ h x hx
        omega
theorem roomL_bd {l : List ByteArray} (h : 0 ≤ roomL l) : l.length ≤ 1048576 ∧ ∀ x ∈ l, x.size ≤ 1048576 := by
  unfold roomL at h
  by_cases hl : 1048576 - (l.length : Int) < 0
  · rw [if_pos hl] at h; omega
  · rw [if_neg hl] at h
    refine ⟨by omega, fun x hx => ?_⟩
    have := roomS_le l _ h x hx
    omega
set_option maxRecDepth 100000 in
set_option maxHeartbeats 1000000 in
theorem szS_any (a : Option Addr) (c n : Nat) (l : List ByteArray) (w : World) (hn : l.length = n) (h : SA w a l) (hM : n ≤ maxLen) (hx : ∀ x ∈ l, x.size ≤ maxLen) :
    Calls Tryd.prog 25 #[.slice a n c, .int .i64 1048576] w fun e w' => e = .returned (.int .i64 (roomL l)) ∧ w' = w := by
  have HA : Hid (SA w a l) := h
  have HN : Hid (l.length = n) := hn
  have HX : Hid (∀ x ∈ l, x.size ≤ maxLen) := hx
  clear h hn hx
  unfold maxLen at hM
  by_cases hb : 1048576 - (n : Int) < 0
  · have HR : Hid (roomL l = -1) := by show _ = _; unfold roomL; rw [if_pos (by have := HN.out; omega)]
    go_enter Tryd.func25, Tryd.ntmps25
    go_wp2
    go_ret
    exact ⟨retZ HR.out.symm, rfl⟩
  · have HR : Hid (roomL l = roomS (l.drop 0) (1048576 - (n : Int))) := by show _ = _; unfold roomL; rw [if_neg (by have := HN.out; omega), HN.out]; rfl
    go_enter Tryd.func25, Tryd.ntmps25
    go_wp2_with fail
    go_loop [1, 5] (fun vq vi => ∃ (k : Nat) (q : Int), vi = .int .i64 (k : Int) ∧ vq = .int .i64 q ∧ k ≤ n ∧ 0 ≤ q ∧ q ≤ 1048576 ∧ roomL l = roomS (l.drop k) q) (fun _ vi => n - (intOf vi).toNat)
    case atStart => exact ⟨0, _, rfl, rfl, Nat.zero_le _, by omega, by omega, HR.out⟩
    case round =>
      obtain ⟨k, q, rfl, rfl, hk, hq0, hq1, he⟩ := hrel
      have HE : Hid (roomL l = roomS (l.drop k) q) := he
      clear he
      by_cases hlt : k < n
      · have hkl : k < l.length := by have := HN.out; omega
        obtain ⟨b, o, rfl, hc⟩ := HA.out k hkl
        have hxs := HX.out l[k] (List.getElem_mem hkl)
        unfold maxLen at hxs
        have HD : Hid (roomS (l.drop k) q = if q - (l[k].size : Int) < 0 then -1 else roomS (l.drop (k + 1)) (q - l[k].size)) := by
          show _ = _
          rw [List.drop_eq_getElem_cons hkl, roomS]
        generalize l[k] = x at *
        have lk : (k : Int) < n := by omega
        have l0 : (0 : Int) ≤ k := by omega
        clear hkl
        by_cases hneg : q - (x.size : Int) < 0
        · have HF : Hid (roomL l = -1) := by show _ = _; rw [HE.out, HD.out, if_pos hneg]
          clear HE HD
          go_wp2
          go_ret
          exact ⟨retZ HF.out.symm, rfl⟩
        · have HF : Hid (roomL l = roomS (l.drop (k + 1)) (q - x.size)) := by show _ = _; rw [HE.out, HD.out, if_neg hneg]
          clear HE HD
          have hge : 0 ≤ q - (x.size : Int) := by omega
          go_wp2
          exact ⟨⟨k + 1, _, by go_num, rfl, hlt, hge, by omega, HF.out⟩, by simp [intOf]; omega⟩
      · obtain rfl : k = n := by omega
        have HF : Hid (roomL l = q) := by
          show _ = _
          rw [HE.out, List.drop_of_length_le (by have := HN.out; omega)]
          rfl
        clear HE
        go_wp2
        go_ret
        exact ⟨retZ HF.out.symm, rfl⟩
theorem Tryd.infoStr : (Tryd.prog.info? 9).map (fun i => (i.zero, i.size, i.bytes)) = some (some (.string ⟨#[]⟩), 1, 16) := by kernel_rfl
/- Parts of a slice of texts. -/
theorem Tryd.sliceLo (b o n c k : Nat) (h : k ≤ c) : ∀ w, (Instr.slice 22 (.slice (some ⟨b, o, none⟩) n c) none (some (.int .i64 (k : Int))) none).run Tryd.prog w = .ok (.slice (some ⟨b, o, none⟩) k c) w := by
  intro w
  have h1 : (k : Int) ≤ c := by omega
  simp [Instr.slice, run_underlying Tryd.underlying22, Instr.sliceBounds, run_sliceBound, h1]
  intro _
  exact Addr.add_zero' _
theorem Tryd.sliceHi (b o n c k : Nat) (h : k ≤ n) (hk : k < c) : ∀ w, (Instr.slice 22 (.slice (some ⟨b, o, none⟩) n c) (some (.int .i64 (k : Int))) none none).run Tryd.prog w = .ok (.slice (some ⟨b, o + k, none⟩) (n - k) (c - k)) w := by
  intro w
  have h1 : (k : Int) ≤ n := by omega
  simp [Instr.slice, run_underlying Tryd.underlying22, Instr.sliceBounds, run_sliceBound, h1, show ¬ c = k by omega, Addr.add_lit]
theorem Tryd.sliceLoM (b o n c k : Nat) (h : k ≤ c) : ∀ w, (Instr.slice 22 (.slice (some ⟨b, o, none⟩) n c) none (some (.int .i64 (k : Int))) (some (.int .i64 (k : Int)))).run Tryd.prog w = .ok (.slice (some ⟨b, o, none⟩) k k) w := by
  intro w
  have h1 : (k : Int) ≤ c := by omega
  simp [Instr.slice, run_underlying Tryd.underlying22, Instr.sliceBounds, run_sliceBound, h1]
  intro _
  exact Addr.add_zero' _
theorem made_zeroS (n : Nat) : (madeCells #[Value.string ⟨#[]⟩] n).toList = svl (List.replicate n ⟨#[]⟩) := by
  apply List.ext_getElem
  · simp [madeCells, svl]
  · intro i h1 h2
    simp [madeCells, Nat.mod_one, svl]
theorem RowV.made {w : World} {base e g n : Nat} {xs : List Value} (h : w.ownsRow base e 1 (.slice (some ⟨g, 0, none⟩) n n) n xs) : RowV w g xs := by
  rcases h.2 with ⟨h1, _⟩ | ⟨g', cap, cur, hv, hbg, hg, hnc, hcm, hcs, htake⟩
  · simp at h1
  · simp at hv
    obtain ⟨rfl, rfl⟩ := hv
    have : cur.toList = xs := by rw [← htake, List.take_of_length_le (by simp [hcs])]
    refine RowV.of_block (t := e) ?_
    rw [hg, ← this]
theorem copy_setS (l : List ByteArray) {k : Nat} (hk : k < l.length) : l.take (k + 1) ++ List.replicate (l.length - (k + 1)) (⟨#[]⟩ : ByteArray) = (l.take k ++ List.replicate (l.length - k) (⟨#[]⟩ : ByteArray)).set k l[k] := by
  rw [List.set_append_right _ _ (by rw [List.length_take]; omega), List.length_take, Nat.min_eq_left (by omega), Nat.sub_self]
  obtain ⟨d, hd⟩ : ∃ d, l.length - k = d + 1 := ⟨l.length - k - 1, by omega⟩
  rw [hd, show l.length - (k + 1) = d by omega, List.replicate_succ, List.set_cons_zero, List.take_succ_eq_append_getElem hk, List.append_assoc]
  rfl
theorem RowV.setS {w : World} {g k : Nat} {l l' : List ByteArray} {x : ByteArray} (h : RowV w g (svl l)) (hk : k < l.length) (hl : l' = l.set k x) : RowV (w.setCell ⟨g, k, none⟩ (.string x)) g (svl l') := by
  subst hl
  rw [← svl_set]
  have hk' : k < (svl l).length := by rw [svl_length]; exact hk
  generalize svl l = L at *
  obtain ⟨u, hu⟩ : ∃ u, w.cell? ⟨g, k, none⟩ = Option.some u := ⟨L[k], h.cell (List.getElem?_eq_getElem hk')⟩
  refine ⟨fun j y hy => ?_, fun j hj => ⟨?_, ?_⟩⟩
  · rw [Nat.zero_add]
    by_cases hjk : j = k
    · subst hjk
      rw [World.cell?_setCell_same w _ _ hu]
      simpa [hk'] using hy
    · rw [World.cell?_setCell_other w _ _ _ (by intro e; injection e with _ e _; exact hjk e.symm)]
      exact h.cell (by rw [← hy, List.getElem?_set_ne (fun e => hjk e.symm)])
  · rw [Nat.zero_add]
    by_cases hjk : j = k
    · subst hjk
      rw [World.cell?_setCell_same w _ _ hu]; rfl
    · rw [World.cell?_setCell_other w _ _ _ (by intro e; injection e with _ e _; exact hjk e.symm)]
      have := (h.ths j (by simpa using hj)).1
      rw [Nat.zero_add] at this
      exact this
  · rw [World.frozen?_setCell]
    exact (h.ths j (by simpa using hj)).2
set_option maxRecDepth 100000 in
set_option maxHeartbeats 1000000 in
theorem toS_row (a : Option Addr) (c n : Nat) (l : List ByteArray) (w : World) (hn : l.length = n) (h : SA w a l) (hb : n ≤ 1048576) :
    Calls Tryd.prog 27 #[.slice a n c] w fun e w' => e = .returned (.slice (some ⟨w.heap.size, 0, none⟩) n n) ∧ RowV w' w.heap.size (svl l) ∧ Below w.heap.size w w' ∧ w.heap.size < w'.heap.size := by
  have HA : Hid (SA w a l) := h
  have HN : Hid (l.length = n) := hn
  clear h hn
  obtain ⟨i0, hi, hz0, hz1, hz2⟩ := info_parts Tryd.infoStr
  go_enter Tryd.func27, Tryd.ntmps27
  go_wp2_with (first
    | (at_make; refine wpList_make_full _ rfl _ _ 22 rfl w.heap.size 9 i0 (.string ⟨#[]⟩) 1 Tryd.underlying22 hi hz0 hz1 _ _ _ _ n rfl rfl (by omega) (by omega) (by rw [hz2]; omega) (by unfold maxLen; omega) (Nat.le_refl _) ?_))
  intro w1 hown1 hgr1
  have HI1 : Hid (RowV w1 w.heap.size (svl (l.take 0 ++ List.replicate (l.length - 0) (⟨#[]⟩ : ByteArray)))) := by
    rw [HN.out]
    have := RowV.made hown1
    rw [made_zeroS] at this
    exact this
  have HL1 : Hid (w.heap.size < w1.heap.size) := (hown1.lt w.heap.size rfl).2
  have hb1 : Below w.heap.size w w1 := (Below.refl _ _).grown hgr1 (Nat.le_refl _) (fun _ h => by cases h)
  clear hown1 hgr1 hi hz0 hz1 hz2
  go_wp2_with fail
  go_loopw [4] (fun i wr => ∃ k : Nat, i = .int .i64 (k : Int) ∧ k ≤ n ∧ RowV wr w.heap.size (svl (l.take k ++ List.replicate (l.length - k) (⟨#[]⟩ : ByteArray))) ∧ Below w.heap.size w wr ∧ w.heap.size < wr.heap.size) (fun i _ => n - (intOf i).toNat)
  case atStart => exact ⟨0, rfl, Nat.zero_le _, HI1.out, hb1, HL1.out⟩
  case round =>
    obtain ⟨k, rfl, hk, hI, hB, hL⟩ := hrel
    have H8 : Hid (RowV wr w.heap.size (svl (l.take k ++ List.replicate (l.length - k) (⟨#[]⟩ : ByteArray))) ∧ Below w.heap.size w wr ∧ w.heap.size < wr.heap.size) := ⟨hI, hB, hL⟩
    by_cases hlt : k < n
    · have hkl : k < l.length := by have := HN.out; omega
      have hlen : k < (l.take k ++ List.replicate (l.length - k) (⟨#[]⟩ : ByteArray)).length := by simp; omega
      obtain ⟨b, o, rfl, ca⟩ := HA.out.below hB k hkl
      have cg := hI.cell (svl_get hlen)
      have hfz := hI.frozen (k := k) (by rw [svl_length]; exact hlen)
      generalize (l.take k ++ List.replicate (l.length - k) (⟨#[]⟩ : ByteArray))[k] = y at cg
      have HS : Hid (True → l.take (k + 1) ++ List.replicate (l.length - (k + 1)) (⟨#[]⟩ : ByteArray) = (l.take k ++ List.replicate (l.length - k) (⟨#[]⟩ : ByteArray)).set k l[k]) := fun _ => copy_setS l hkl
      generalize l[k] = x at *
      have H9 : Hid (RowV (wr.setCell ⟨w.heap.size, k, none⟩ (.string x)) w.heap.size (svl (l.take (k + 1) ++ List.replicate (l.length - (k + 1)) (⟨#[]⟩ : ByteArray))) ∧ Below w.heap.size w (wr.setCell ⟨w.heap.size, k, none⟩ (.string x)) ∧ w.heap.size < (wr.setCell ⟨w.heap.size, k, none⟩ (.string x)).heap.size) :=
        ⟨H8.out.1.setS hlen (HS.out trivial), H8.out.2.1.setCell (Nat.le_refl _) _, by rw [World.size_setCell]; exact hL⟩
      have lk : (k : Int) < n := by omega
      have l0 : (0 : Int) ≤ k := by omega
      clear hI hB hL hlen hkl H8 HI1 HA hb1
      go_wp2
      go_roundw
      case rel => exact ⟨k + 1, by go_num, hlt, H9.out.1, H9.out.2.1, H9.out.2.2⟩
      case measure => simp [intOf]; omega
    · obtain rfl : k = n := by omega
      go_wp2
      go_ret
      refine ⟨rfl, ?_, hB, hL⟩
      have := H8.out.1
      rw [List.take_of_length_le (by have := HN.out; omega), show l.length - k = 0 by have := HN.out; omega, List.replicate_zero, List.append_nil] at this
      exact this

set_option maxRecDepth 100000 in
set_option maxHeartbeats 1000000 in
theorem eqS_any (a1 a2 : Option Addr) (c1 c2 : Nat) (l1 l2 : List ByteArray) (w : World) (h1 : SA w a1 l1) (h2 : SA w a2 l2) (hb1 : l1.length ≤ 1000000000) (hb2 : l2.length ≤ 1000000000) :
    Calls Tryd.prog 29 #[.slice a1 l1.length c1, .slice a2 l2.length c2] w fun e w' => e = .returned (.bool (decide (l1 = l2))) ∧ Below w.heap.size w w' := by
  have H1 : Hid (SA w a1 l1) := h1
  have H2 : Hid (SA w a2 l2) := h2
  clear h1 h2
  by_cases hlen : l1.length = l2.length
  · have HLen : Hid (l1.length = l2.length) := hlen
    have HEX : Hid ((∀ j : Nat, j < l1.length → l1[j]? = l2[j]?) → decide (l1 = l2) = true) := fun h => decide_eq_true (List.ext_getElem? fun j => by
      by_cases hj : j < l1.length
      · exact h j hj
      · rw [List.getElem?_eq_none (by omega), List.getElem?_eq_none (by omega)])
    have HNE : Hid (∀ j : Nat, l1[j]? ≠ l2[j]? → decide (l1 = l2) = false) := fun j h => decide_eq_false (fun e => h (by rw [e]))
    obtain ⟨n, hn⟩ : ∃ n, l1.length = n := ⟨_, rfl⟩
    rw [← hlen, hn]
    rw [hn] at hb1
    have HN : Hid (l1.length = n) := hn
    clear hlen hn hb2
    go_enter Tryd.func29, Tryd.ntmps29
    go_wp2_with fail
    go_loopw [5] (fun i wr => ∃ k : Nat, i = .int .i64 (k : Int) ∧ k ≤ n ∧ (∀ j : Nat, j < k → l1[j]? = l2[j]?) ∧ Below w.heap.size w wr) (fun i _ => n - (intOf i).toNat)
    case atStart => exact ⟨0, rfl, Nat.zero_le _, fun j h => by omega, Below.refl _ _⟩
    case round =>
      obtain ⟨k, rfl, hk, hj, hb⟩ := hrel
      have HJ : Hid (∀ j : Nat, j < k → l1[j]? = l2[j]?) := hj
      have HB : Hid (Below w.heap.size w wr) := hb
      clear hj
      by_cases hlt : k < n
      · have hl1 : k < l1.length := by have := HN.out; omega
        have hl2 : k < l2.length := by have := HN.out; have := HLen.out; omega
        obtain ⟨g1, o1, rfl, d1⟩ := (H1.out.below hb) k hl1
        obtain ⟨g2, o2, rfl, d2⟩ := (H2.out.below hb) k hl2
        have HX : Hid (l1[k]? = some l1[k] ∧ l2[k]? = some l2[k]) := ⟨List.getElem?_eq_getElem hl1, List.getElem?_eq_getElem hl2⟩
        generalize l1[k] = x at *
        generalize l2[k] = y at *
        have lk : (k : Int) < n := by omega
        have l0 : (0 : Int) ≤ k := by omega
        clear hb hl1 hl2
        by_cases hxy : x = y
        · subst hxy
          have t1 := txt_eq x
          go_wp2_with fail
          go_quiet (fail)
          go_wp2
          go_roundw
          case rel => exact ⟨k + 1, by go_num, hlt, fun j hjk => by
            by_cases he : j = k
            · subst he; rw [HX.out.1, HX.out.2]
            · exact HJ.out j (by omega), belowN HB.out _⟩
          case measure => simp [intOf]; omega
        · have hxb := txt_ne hxy
          go_wp2_with fail
          go_quiet (fail)
          go_wp2
          go_ret
          exact ⟨by rw [HNE.out k (by rw [HX.out.1, HX.out.2]; intro e; injection e with e; exact hxy e)]; rfl, belowN HB.out _⟩
      · obtain rfl : k = n := by omega
        go_wp2
        go_ret
        exact ⟨by rw [HEX.out (fun j h => HJ.out j (by have := HN.out; omega))]; rfl, HB.out⟩
  · have hne : ((l1.length : Int) == (l2.length : Int)) = false := by simp; omega
    have hne' : ((l1.length : Int) != (l2.length : Int)) = true := by simp; omega
    have hd : decide (l1 = l2) = false := decide_eq_false (fun e => hlen (by rw [e]))
    rw [hd]
    go_enter Tryd.func29, Tryd.ntmps29
    go_wp2
    go_ret
    exact ⟨rfl, Below.refl _ _⟩
end Go.Proofs.YtchfpiadfmnphaaDoor
namespace Go.Proofs.YtchfpiadfmnphaaDoor
open Go.RowKit
set_option linter.unusedVariables false

/- The digits of a number ahead of a text. -/
def decF : Nat → Nat → ByteArray → ByteArray
  | 0, _, out => out
  | f + 1, k, out => if k = 0 then out else decF f (k / 10) (⟨#[UInt8.ofNat (48 + k % 10)]⟩ ++ out)
def decT (k : Nat) (out : ByteArray) : ByteArray := decF k k out
theorem decF_fuel : ∀ (n m k : Nat) (out : ByteArray), k ≤ n → k ≤ m → decF n k out = decF m k out
  | 0, m, k, out, h1, h2 => by
    have : k = 0 := by omega
    subst this
    cases m <;> simp [decF]
  | n + 1, 0, k, out, h1, h2 => by
    have : k = 0 := by omega
    subst this
    simp [decF]
  | n + 1, m + 1, k, out, h1, h2 => by
    rw [decF, decF]
    by_cases h : k = 0
    · rw [if_pos h, if_pos h]
    · rw [if_neg h, if_neg h]
      exact decF_fuel n m _ _ (by omega) (by omega)
theorem decT_go {k : Nat} (h : k ≠ 0) (out : ByteArray) : decT k out = decT (k / 10) (⟨#[UInt8.ofNat (48 + k % 10)]⟩ ++ out) := by
  unfold decT
  obtain ⟨n, hn⟩ : ∃ n, k = n + 1 := ⟨k - 1, by omega⟩
  conv => lhs; rw [hn, decF]
  rw [← hn, if_neg h]
  exact decF_fuel _ _ _ _ (by omega) (Nat.le_refl _)
theorem decT_zero (out : ByteArray) : decT 0 out = out := rfl
def mkT (k : Nat) : ByteArray := ⟨#[109]⟩ ++ decT k ⟨#[]⟩
theorem conv_one (w : World) (b : UInt8) : ∀ dst, Tryd.prog.underlying dst = some .string → (convert 80 dst (.slice (some ⟨w.heap.size, 0, none⟩) 1 1)).run Tryd.prog (w.alloc (.cells #[BV b] 5)) = .ok (.string ⟨#[b]⟩) (w.alloc (.cells #[BV b] 5)) :=
  run_conv_own 80 Tryd.underlying80 Tryd.underlying5 (World.ownsRow_lit (base := w.heap.size) w #[BV b] 1 (Nat.le_refl _) (by unfold maxLen; omega) rfl)
set_option maxRecDepth 100000 in
set_option maxHeartbeats 1000000 in
theorem mark_any (k0 : Nat) (w : World) (h1 : 1 ≤ k0) (h2 : k0 ≤ 1000000000) :
    Calls Tryd.prog 50 #[.int .i64 (k0 : Int)] w fun e w' => e = .returned (.string (mkT k0)) ∧ Below w.heap.size w w' := by
  have d1 : decide ((k0 : Int) ≤ 0) = false := decide_eq_false (by omega)
  have HM : Hid (∀ x, decT k0 ⟨#[]⟩ = x → (⟨#[109]⟩ : ByteArray) ++ x = mkT k0) := fun x h => by rw [← h]; rfl
  go_enter Tryd.func50, Tryd.ntmps50
  go_wp2_with fail
  go_loopw [0, 3] (fun vk vo wr => ∃ (k : Nat) (out : ByteArray), vk = .int .i64 (k : Int) ∧ vo = .string out ∧ k ≤ k0 ∧ out.size ≤ 1000000000 - k ∧ Hid (decT k out = decT k0 ⟨#[]⟩) ∧ Below w.heap.size w wr) (fun vk _ _ => (intOf vk).toNat)
  case atStart => exact ⟨k0, ⟨#[]⟩, rfl, rfl, Nat.le_refl _, Nat.zero_le _, rfl, Below.refl _ _⟩
  case round =>
    obtain ⟨k, out, rfl, rfl, hk, hos, HD, hB⟩ := hrel
    have HB : Hid (Below w.heap.size w wr) := hB
    clear hB
    by_cases hz : k = 0
    · subst hz
      have HF : Hid ((⟨#[109]⟩ : ByteArray) ++ out = mkT k0) := HM.out out HD.out.symm
      clear HD HM
      go_wp2
      go_ret
      exact ⟨by rw [← HF.out]; rfl, HB.out⟩
    · have hk' : (0 : Int) < (k : Int) := by omega
      obtain ⟨b, hb⟩ : ∃ b, UInt8.ofNat (48 + k % 10) = b := ⟨_, rfl⟩
      have HE : Hid (decT (k / 10) (⟨#[b]⟩ ++ out) = decT k0 ⟨#[]⟩) := by have := HD.out; rw [decT_go hz, hb] at this; exact this
      have hbv : BV b = .int .u8 (48 + (k : Int) % 10) := by rw [← hb, BV_ofNat _ (by omega)]; congr 1
      obtain ⟨o2, ho2⟩ : ∃ o2, (⟨#[b]⟩ : ByteArray) ++ out = o2 := ⟨_, rfl⟩
      have hs2 : o2.size = 1 + out.size := by rw [← ho2, ByteArray.size_append]; rfl
      have hcv := conv_one wr b 9 Tryd.underlying9
      rw [hbv] at hcv
      rw [ho2] at HE
      have B2 : Below wr.heap.size wr (wr.alloc (.cells #[.int .u8 (48 + (k : Int) % 10)] 5)) := (Below.refl _ _).alloc (Nat.le_refl _) _
      have HB2 : Hid (Below w.heap.size w (wr.alloc (.cells #[.int .u8 (48 + (k : Int) % 10)] 5))) := HB.out.trans (B2.mono HB.out.size)
      clear HD HM hb hbv B2 HB
      go_wp2
      exact ⟨⟨k / 10, o2, by go_num, rfl, by omega, by omega, HE, HB2.out⟩, by simp [intOf]; omega⟩
/- All but one block stands. -/
def But (g : Nat) (w w' : World) : Prop := Below 0 w w' ∧ ∀ k, k ≠ g → k < w.heap.size → w'.heap[k]? = w.heap[k]?
theorem But.refl (g : Nat) (w : World) : But g w w := ⟨Below.refl _ _, fun _ _ _ => rfl⟩
theorem But.size {g : Nat} {w w' : World} (h : But g w w') : w.heap.size ≤ w'.heap.size := h.1.size
theorem But.trans {g : Nat} {a b c : World} (h : But g a b) (k : But g b c) : But g a c :=
  ⟨h.1.trans k.1, fun j hj hl => (k.2 j hj (Nat.lt_of_lt_of_le hl h.size)).trans (h.2 j hj hl)⟩
theorem But.of {g : Nat} {w w' : World} (h : Below w.heap.size w w') : But g w w' := ⟨h.mono (Nat.zero_le _), fun j _ hl => h.block j hl⟩
theorem But.set (g k : Nat) (w : World) (u : Value) : But g w (w.setCell ⟨g, k, none⟩ u) := ⟨(Below.refl _ _).setCell (Nat.zero_le _) u, fun j hj _ => Below.heap_setCell w ⟨g, k, none⟩ u j hj⟩
theorem But.below {g B : Nat} {w w' : World} (h : But g w w') (hg : B ≤ g) (hB : B ≤ w.heap.size) : Below B w w' :=
  ⟨h.1.os, h.1.tape, h.1.output, h.1.size, fun k hk => h.2 k (by omega) (by omega)⟩
theorem But.row {g j : Nat} {w w' : World} {l : List Value} (h : But g w w') (hr : RowV w j l) (hj : j ≠ g) (hl : j < w.heap.size) : RowV w' j l :=
  hr.same fun k => ⟨World.cell?_of_block (w := w) (h.2 j hj hl), World.frozen?_of_block (w := w) (h.2 j hj hl)⟩

/- The marks from a number on. -/
end Go.Proofs.YtchfpiadfmnphaaDoor
