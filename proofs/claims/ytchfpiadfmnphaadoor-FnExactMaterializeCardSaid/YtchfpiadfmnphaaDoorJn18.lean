/- Variables of several cells (a struct, an array) that lie in a block of their own, as wholes; what the operations on them do. HashBegin of both sides; the laws' helpers eqHash, markHash, heldHash. The laws' helpers szInt64S, toInt64S, szHash, toHash: what they answer of a slice of numbers that came in. A slice of structs that a loop fills, one by one; a store into the middle of a block. -/
import Derived.Test.YtchfpiadfmnphaaDoorIntRow
import Derived.Deep.MidRow
import Derived.Great.Ranges
import Derived.Lib.EndianMore
import Derived.OwnWalk
namespace Go.Proofs.YtchfpiadfmnphaaDoor
open Go.RowKit
set_option linter.unusedVariables false

structure RowV (w : World) (g : Nat) (l : List Value) : Prop where
  rng : w.rangeAt g 0 l
  ths : w.there g 0 l.length
theorem RowV.of_block {w : World} {g : Nat} {l : List Value} {t : TypeId} (h : w.heap[g]? = some (.cells l.toArray t (0, 0))) : RowV w g l := by
  refine ⟨fun j v hv => ?_, fun j hj => ⟨?_, ?_⟩⟩
  · simpa [World.cell?, h] using hv
  · simp [World.cell?, h, hj]
  · simp [World.frozen?, h]
theorem RowV.new (w : World) (l : List Value) (t : TypeId) : RowV (w.alloc (.cells l.toArray t)) w.heap.size l := RowV.of_block (heap_alloc_new w _)
theorem RowV.cell {w : World} {g : Nat} {l : List Value} (h : RowV w g l) {k : Nat} {v : Value} (hk : l[k]? = some v) : w.cell? ⟨g, k, none⟩ = some v := by
  have := h.rng k v hk
  rw [Nat.zero_add] at this
  exact this
theorem RowV.lt {w : World} {g : Nat} {l : List Value} (h : RowV w g l) (hl : l ≠ []) : g < w.heap.size := by
  cases l with
  | nil => exact absurd rfl hl
  | cons v r => exact cellLt (h.cell (k := 0) rfl)
theorem RowV.frozen {w : World} {g : Nat} {l : List Value} (h : RowV w g l) {k : Nat} (hk : k < l.length) : w.frozen? ⟨g, k, none⟩ = false := by
  have := (h.ths k hk).2
  rw [Nat.zero_add] at this
  exact this
theorem RowV.same {w w' : World} {g : Nat} {l : List Value} (h : RowV w g l) (hs : ∀ k, w'.cell? ⟨g, k, none⟩ = w.cell? ⟨g, k, none⟩ ∧ w'.frozen? ⟨g, k, none⟩ = w.frozen? ⟨g, k, none⟩) : RowV w' g l :=
  ⟨fun j v hv => (hs _).1.trans (h.rng j v hv), fun j hj => by rw [(hs _).1, (hs _).2]; exact h.ths j hj⟩
theorem RowV.below {w w' : World} {g B : Nat} {l : List Value} (h : RowV w g l) (hb : Below B w w') (hB : g < B) : RowV w' g l :=
  h.same fun k => ⟨hb.cell (p := ⟨g, k, none⟩) hB, hb.frozen (p := ⟨g, k, none⟩) hB⟩
theorem RowV.drew {w : World} {g : Nat} {l : List Value} (h : RowV w g l) : RowV w.drew g l := ⟨h.rng, h.ths⟩
theorem RowV.drewN {w : World} {g : Nat} {l : List Value} (h : RowV w g l) (n : Nat) : RowV (w.drewN n) g l := ⟨h.rng, h.ths⟩
theorem RowV.put {w : World} {g : Nat} {l l' : List Value} (h : RowV w g l) (hl : l'.length = l.length) : RowV (w.setCells g 0 l') g l' :=
  ⟨World.rangeAt_setCells_same w g 0 l' (by rw [hl]; exact h.ths), by rw [hl]; exact World.there_setCells h.ths g 0 l'⟩

theorem setCells_size (g : Nat) : ∀ (l : List Value) (o : Nat) (w : World), (w.setCells g o l).heap.size = w.heap.size
  | [], _, _ => rfl
  | v :: r, o, w => by rw [World.setCells, setCells_size g r, World.size_setCell]
theorem wpList_boxV {P : Program} {ops : Array Oper} {rest : List Oper} {o : Oper} {a : Act} {w : World} {Q : Exit → Act → World → Prop} (hg : o.guard = none) (t : TypeId) (x : Operand) (ho : o.op = .box t x) (l : List Value) (hx : a.eval x = .agg l.toArray)
    (h : ∀ w', RowV w' w.heap.size l → Below w.heap.size w w' → w'.heap.size = w.heap.size + 1 → wpList P ops Q rest (a.put o.dst (.pointer (some ⟨w.heap.size, 0, none⟩))) w') : wpList P ops Q (o :: rest) a w :=
  Great.wpList_boxTo hg t x ho o.dst rfl w.heap.size rfl l.toArray (by rw [hx]; rfl)
    (h _ (RowV.new w l t) ((Below.refl _ _).alloc (Nat.le_refl _) _) (Array.size_push _))
theorem wpList_allocV {P : Program} {ops : Array Oper} {rest : List Oper} {o : Oper} {a : Act} {w : World} {Q : Exit → Act → World → Prop} (hg : o.guard = none) (t : TypeId) (ho : o.op = .alloc t) (l : List Value)
    (hi : (P.info? t).map (fun i => i.zero) = some (some (.agg l.toArray)))
    (h : ∀ w', RowV w' w.heap.size l → Below w.heap.size w w' → w'.heap.size = w.heap.size + 1 → wpList P ops Q rest (a.put o.dst (.pointer (some ⟨w.heap.size, 0, none⟩))) w') : wpList P ops Q (o :: rest) a w := by
  refine wpList_plain hg fun K hK => ?_
  cases hq : P.info? t with
  | none => simp [hq] at hi
  | some i =>
    have hz : i.zero = some (.agg l.toArray) := by simpa [hq] using hi
    unfold Oper.wp execOp
    simp only [ho, Sem.run_bind, Instr.alloc, zeroValue, run_typeInfo w hq, hz, newVar, newRow, run_newObj_alloc, Sem.run_pure, Result.andThen_ok]
    exact hK _ _ (h _ (RowV.new w _ t) ((Below.refl _ _).alloc (Nat.le_refl _) _) (Array.size_push _))
theorem wpList_loadV {P : Program} {ops : Array Oper} {rest : List Oper} {o : Oper} {a : Act} {w : World} {Q : Exit → Act → World → Prop} (hg : o.guard = none) (t : TypeId) (x : Operand) (ho : o.op = .load t x) (g : Nat) (l : List Value)
    (hx : a.eval x = .pointer (some ⟨g, 0, none⟩)) (hl : RowV w g l) (hu : ∃ d, P.underlying t = some d ∧ d.isRow = true) (n : Nat) (hi : (P.info? t).map (·.size) = some n) (hn : l.length = n)
    (h : wpList P ops Q rest (a.put o.dst (.agg l.toArray)) w) : wpList P ops Q (o :: rest) a w := by
  obtain ⟨d, hd, hr⟩ := hu
  exact wpList_load_mid hg t x ho g 0 hx l d hl.rng hd hr (by rw [hn]; exact hi) h
theorem wpList_storeV {P : Program} {ops : Array Oper} {rest : List Oper} {o : Oper} {a : Act} {w : World} {Q : Exit → Act → World → Prop} (hg : o.guard = none) (t : TypeId) (x y : Operand) (ho : o.op = .store t x y) (g : Nat) (l l' : List Value)
    (hx : a.eval x = .pointer (some ⟨g, 0, none⟩)) (hy : a.eval y = .agg l'.toArray) (hl : RowV w g l) (n : Nat) (hi : (P.info? t).map (·.size) = some n) (hn : l.length = n) (hn' : l'.length = n) (h1 : ∀ v ∈ l', v.oneCell' = true)
    (h : ∀ w', RowV w' g l' → (∀ B, B ≤ g → Below B w w') → (∀ x : Addr, x.block ≠ g → w'.cell? x = w.cell? x ∧ w'.frozen? x = w.frozen? x) → w'.heap.size = w.heap.size → wpList P ops Q rest (a.put o.dst undef) w') : wpList P ops Q (o :: rest) a w := by
  subst hn
  refine wpList_store_mid hg t x y ho g 0 l'.toArray hx hy (by simp only [List.size_toArray, hn']; exact hl.ths) (by simp only [List.size_toArray, hn']; exact hi) (by rw [Array.all_eq_true_iff_forall_mem]; intro v hv; exact h1 v (by simpa using hv)) ?_
  refine h _ (hl.put hn') (fun B hB => Lib.below_setCells_w hB _ _ _) (fun x hx => ⟨World.cell?_setCells_out g _ _ _ x (fun e => absurd e hx), World.frozen?_setCells g _ _ _ x⟩) ?_
  exact setCells_size g _ 0 w
theorem results_V {P : Program} {fn : Func} {a : Tmp} {t : TypeId} {w : World} (h : fn.results = #[.cell a t]) (tmps : Array Value) (g : Nat) (l : List Value) (hx : tmps.getD a undef = .pointer (some ⟨g, 0, none⟩))
    (hl : RowV w g l) (hu : ∃ d, P.underlying t = some d ∧ d.isRow = true) (n : Nat) (hi : (P.info? t).map (·.size) = some n) (hn : l.length = n) : (results fn tmps).run P w = .ok (.agg l.toArray) w := by
  obtain ⟨d, hd, hr⟩ := hu
  have := run_loadVar_mid (P := P) w g 0 t l d hl.rng hd hr (by rw [hn]; exact hi)
  rw [Array.getD_eq_getD_getElem?] at hx
  simp [results, h, hx, asAddr, this]
end Go.Proofs.YtchfpiadfmnphaaDoor
namespace Go.Proofs.YtchfpiadfmnphaaDoor
open Go.RowKit
set_option linter.unusedVariables false

def hvs (a : Option Addr) (n c : Nat) (s : ByteArray) (z : Int) : List Value := [.slice a n c, .string s, .int .i64 z]
abbrev HVal (a : Option Addr) (n c : Nat) (s : ByteArray) (z : Int) : Value := .agg (hvs a n c s z).toArray
theorem hvs_one (a : Option Addr) (n c : Nat) (s : ByteArray) (z : Int) : ∀ v ∈ hvs a n c s z, v.oneCell' = true := by
  intro v hv
  simp [hvs] at hv
  rcases hv with h | h | h <;> (rw [h]; rfl)
def iv : List Int := [1779033703, 3144134277, 1013904242, 2773480762, 1359893119, 2600822924, 528734635, 1541459225]
theorem iv_length : iv.length = 8 := rfl
theorem IAt.of_block {w : World} {g : Nat} {l : List Int} {t : TypeId} (h : w.heap[g]? = some (.cells (l.map (Value.int .i64)).toArray t (0, 0))) : IAt w (some ⟨g, 0, none⟩) l := fun _ => by
  refine ⟨g, rfl, fun k hk => ⟨?_, ?_⟩⟩
  · simp [World.cell?, h, hk]
  · simp [World.frozen?, h]
theorem size_alloc (w : World) (o : Obj) : (w.alloc o).heap.size = w.heap.size + 1 := Array.size_push _
theorem two_alloc (w : World) (A : Obj) (l : List Int) (t : TypeId) : IAt ((w.alloc A).alloc (.cells (l.map (Value.int .i64)).toArray t)) (some ⟨w.heap.size + 1, 0, none⟩) l := by
  have h := heap_alloc_new (w.alloc A) (.cells (l.map (Value.int .i64)).toArray t)
  rw [size_alloc] at h
  exact IAt.of_block h
theorem Tryd.infoH : (Tryd.prog.info? 77).map (fun i => i.zero) = some (some (.agg (hvs none 0 0 ⟨#[]⟩ 0).toArray)) := by kernel_rfl
theorem Tryd.undH : ∃ d, Tryd.prog.underlying 77 = some d ∧ d.isRow = true := ⟨_, Tryd.underlying77, rfl⟩
theorem Tryd.sizeH : (Tryd.prog.info? 77).map (·.size) = some 3 := by kernel_rfl

set_option maxRecDepth 100000 in
set_option maxHeartbeats 1000000 in
theorem start_any (w : World) :
    Calls Tryd.prog 68 #[] w fun e w' => e = .returned (.slice (some ⟨w.heap.size, 0, none⟩) 8 8) ∧ IAt w' (some ⟨w.heap.size, 0, none⟩) iv ∧ Below w.heap.size w w' ∧ w'.heap.size = w.heap.size + 1 := by
  go_enter Tryd.func68, Tryd.ntmps68
  go_wp2
  go_ret
  refine ⟨rfl, ?_, (Below.refl _ _).alloc (Nat.le_refl _) _, size_alloc _ _⟩
  exact IAt.of_block (t := 2) (heap_alloc_new w _)
set_option maxRecDepth 100000 in
set_option maxHeartbeats 1000000 in
theorem beginI_any (w : World) :
    Calls Tryd.prog 62 #[] w fun e w' => ∃ g, e = .returned (HVal (some ⟨g, 0, none⟩) 8 8 ⟨#[]⟩ 0) ∧ w.heap.size ≤ g ∧ g < w'.heap.size ∧ IAt w' (some ⟨g, 0, none⟩) iv ∧ Below w.heap.size w w' := by
  go_enter Tryd.func62, Tryd.ntmps62
  go_wp2
  refine bodyPost_ret (v := HVal (some ⟨w.heap.size + 1, 0, none⟩) 8 8 ⟨#[]⟩ 0) (by simp [results, Tryd.results62, go_sem, HVal, hvs]) rfl ⟨w.heap.size + 1, rfl, by omega, by rw [size_alloc, size_alloc]; omega, ?_, ((Below.refl _ _).alloc (Nat.le_refl _) _).alloc (by rw [size_alloc]; omega) _⟩
  exact two_alloc w _ iv 2
set_option maxRecDepth 100000 in
set_option maxHeartbeats 1000000 in
theorem beginS_any (w : World) :
    Calls Tryd.prog 49 #[] w fun e w' => ∃ g, e = .returned (HVal (some ⟨g, 0, none⟩) 8 8 ⟨#[]⟩ 0) ∧ w.heap.size ≤ g ∧ g < w'.heap.size ∧ IAt w' (some ⟨g, 0, none⟩) iv ∧ Below w.heap.size w w' := by
  go_enter Tryd.func49, Tryd.ntmps49
  go_wp2_with (first
    | (with_reducible refine wpList_allocV (w := w) (by with_unfolding_all rfl) 77 (by with_unfolding_all rfl) (hvs none 0 0 ⟨#[]⟩ 0) Tryd.infoH ?_; intro w1 hA1 hB1 hS1)
    | (go_at_call 68; refine (start_any _).mono ?_; rintro e w2 ⟨rfl, h2, hB2, hS2⟩)
    | (with_reducible refine wpList_storeV (w := w2) (by with_unfolding_all rfl) 77 (.tmp 0) (.tmp 2) (by with_unfolding_all rfl) w.heap.size (hvs none 0 0 ⟨#[]⟩ 0) (hvs (some ⟨w.heap.size + 1, 0, none⟩) 8 8 ⟨#[]⟩ 0) (by with_unfolding_all rfl) (by with_unfolding_all rfl) (hA1.below hB2 (by omega)) 3 Tryd.sizeH (by with_unfolding_all rfl) (by with_unfolding_all rfl) (hvs_one _ _ _ _ _) ?_; intro w3 hA3 hB3 hF3 hS3))
  rw [hS1] at h2
  refine bodyPost_ret (results_V (t := 77) rfl _ w.heap.size _ rfl hA3 Tryd.undH 3 Tryd.sizeH rfl) rfl ⟨w.heap.size + 1, rfl, by omega, by omega, ?_, (hB1.trans (hB2.mono (by omega))).trans (hB3 _ (Nat.le_refl _))⟩
  intro hne
  obtain ⟨g, hg, hc⟩ := h2 hne
  refine ⟨g, hg, fun k hk => ?_⟩
  injection hg with hg
  injection hg with hg
  have := hF3 ⟨g, k, none⟩ (by show g ≠ w.heap.size; omega)
  exact ⟨this.1.trans (hc k hk).1, this.2.trans (hc k hk).2⟩

/- Everything that was there but the row is as it was. -/
structure WroteOld (a : Option Addr) (w w' : World) : Prop where
  far : ∀ x : Addr, x.block < w.heap.size → (∀ ad, a = some ad → x.block ≠ ad.block) → w'.cell? x = w.cell? x ∧ w'.frozen? x = w.frozen? x
  below : ∀ B, B ≤ w.heap.size → (∀ ad, a = some ad → B ≤ ad.block) → Below B w w'
  size : w.heap.size ≤ w'.heap.size
theorem WroteOld.row {a : Option Addr} {w w' : World} (h : WroteOld a w w') {g : Nat} {l : List Value} (hr : RowV w g l) (hg : g < w.heap.size) (hne : ∀ ad, a = some ad → g ≠ ad.block) : RowV w' g l :=
  hr.same fun k => h.far ⟨g, k, none⟩ hg hne
theorem WroteOld.irow {a : Option Addr} {w w' : World} (h : WroteOld a w w') {b : Option Addr} {l : List Int} (hr : IAt w b l) (hne : ∀ ad bd, a = some ad → b = some bd → bd.block ≠ ad.block) : IAt w' b l := fun hl => by
  obtain ⟨g, hg, hc⟩ := hr hl
  refine ⟨g, hg, fun k hk => ?_⟩
  have := h.far ⟨g, k, none⟩ (cellLt (hc k hk).1) (fun ad ha => hne ad ⟨g, 0, none⟩ ha hg)
  exact ⟨this.1.trans (hc k hk).1, this.2.trans (hc k hk).2⟩

/- Two variables that hold a Hash each, and their rows. -/
structure St (w : World) (b1 b2 g1 g2 : Nat) (l2 : List Int) : Prop where
  v1 : RowV w b1 (hvs (some ⟨g1, 0, none⟩) 8 8 ⟨#[]⟩ 0)
  v2 : RowV w b2 (hvs (some ⟨g2, 0, none⟩) 8 8 ⟨#[]⟩ 0)
  i1 : IAt w (some ⟨g1, 0, none⟩) iv
  i2 : IAt w (some ⟨g2, 0, none⟩) l2
theorem hvs_ne (a : Option Addr) (n c : Nat) (s : ByteArray) (z : Int) : hvs a n c s z ≠ [] := by simp [hvs]
theorem St.below {w w' : World} {b1 b2 g1 g2 : Nat} {l2 : List Int} (h : St w b1 b2 g1 g2 l2) (hb : Below w.heap.size w w') : St w' b1 b2 g1 g2 l2 :=
  ⟨h.v1.below hb (h.v1.lt (hvs_ne _ _ _ _ _)), h.v2.below hb (h.v2.lt (hvs_ne _ _ _ _ _)), h.i1.below hb, h.i2.below hb⟩
theorem St.marked {w w' : World} {b1 b2 g1 g2 : Nat} {l2 l3 : List Int} (h : St w b1 b2 g1 g2 l2) (hw : WroteOld (some ⟨g2, 0, none⟩) w w') (hi : IAt w' (some ⟨g2, 0, none⟩) l3) (n1 : b1 ≠ g2) (n2 : b2 ≠ g2) (n3 : g1 ≠ g2) : St w' b1 b2 g1 g2 l3 :=
  ⟨hw.row h.v1 (h.v1.lt (hvs_ne _ _ _ _ _)) (fun ad e => by injection e with e; subst e; exact n1), hw.row h.v2 (h.v2.lt (hvs_ne _ _ _ _ _)) (fun ad e => by injection e with e; subst e; exact n2),
    hw.irow h.i1 (fun ad bd e1 e2 => by injection e1 with e1; injection e2 with e2; subst e1; subst e2; exact n3), hi⟩
end Go.Proofs.YtchfpiadfmnphaaDoor
namespace Go.Proofs.YtchfpiadfmnphaaDoor
open Go.RowKit
set_option linter.unusedVariables false

def AI (w : World) (a : Option Addr) (l : List Int) : Prop := ∀ k (h : k < l.length), ∃ b o, a = some ⟨b, o, none⟩ ∧ w.cell? ⟨b, o + k, none⟩ = some (.int .i64 l[k])
theorem AI.below {w w' : World} {a : Option Addr} {l : List Int} (h : AI w a l) (hb : Below w.heap.size w w') : AI w' a l := fun k hk => by
  obtain ⟨b, o, ha, hc⟩ := h k hk
  exact ⟨b, o, ha, (hb.cell (p := ⟨b, o + k, none⟩) (cellLt hc)).trans hc⟩
theorem IAt.set {w : World} {g k : Nat} {l l' : List Int} {x : Int} (h : IAt w (some ⟨g, 0, none⟩) l) (hk : k < l.length) (hl : l' = l.set k x) : IAt (w.setCell ⟨g, k, none⟩ (.int .i64 x)) (some ⟨g, 0, none⟩) l' := fun _ => by
  subst hl
  obtain ⟨g', hg', hc⟩ := h (by intro e; rw [e] at hk; simp at hk)
  injection hg' with hg'
  injection hg' with hg'
  subst hg'
  refine ⟨g, rfl, fun j hj => ?_⟩
  have hj' : j < l.length := by simpa using hj
  rw [World.frozen?_setCell]
  refine ⟨?_, (hc j hj').2⟩
  by_cases hjk : j = k
  · subst hjk
    rw [World.cell?_setCell_same w _ _ (hc j hk).1]
    simp
  · rw [World.cell?_setCell_other w _ _ _ (by intro e; injection e with _ e _; exact hjk e.symm), (hc j hj').1]
    rw [List.getElem_set_ne (fun e => hjk e.symm)]
theorem RowV.setAt {w : World} {g k : Nat} {l l' : List Value} {v : Value} (h : RowV w g l) (hk : k < l.length) (hl : l' = l.set k v) : RowV (w.setCell ⟨g, k, none⟩ v) g l' := by
  subst hl
  obtain ⟨u, hu⟩ : ∃ u, w.cell? ⟨g, k, none⟩ = some u := ⟨l[k], h.cell (List.getElem?_eq_getElem hk)⟩
  refine ⟨fun j x hx => ?_, fun j hj => ⟨?_, ?_⟩⟩
  · rw [Nat.zero_add]
    by_cases hjk : j = k
    · subst hjk
      rw [World.cell?_setCell_same w _ _ hu]
      simpa [hk] using hx
    · rw [World.cell?_setCell_other w _ _ _ (by intro e; injection e with _ e _; exact hjk e.symm)]
      exact h.cell (by rw [← hx, List.getElem?_set_ne (fun e => hjk e.symm)])
  · rw [Nat.zero_add]
    by_cases hjk : j = k
    · subst hjk
      rw [World.cell?_setCell_same w _ _ hu]; rfl
    · rw [World.cell?_setCell_other w _ _ _ (by intro e; injection e with _ e _; exact hjk e.symm)]
      have := (h.ths j (by simpa using hj)).1
      rw [Nat.zero_add] at this
      exact this
  · rw [World.frozen?_setCell]
    exact (h.ths j (by simpa using hj)).2
theorem Tryd.infoNum : (Tryd.prog.info? 2).map (fun i => (i.zero, i.size, i.bytes)) = some (some (.int .i64 0), 1, 8) := by kernel_rfl
theorem made_zeroI (n : Nat) : (madeCells #[Value.int .i64 0] n).toList = (List.replicate n (0 : Int)).map (Value.int .i64) := by
  apply List.ext_getElem
  · simp [madeCells]
  · intro i h1 h2
    simp [madeCells, Nat.mod_one]
theorem IAt.made {w : World} {base e g n : Nat} {xs : List Value} (h : w.ownsRow base e 1 (.slice (some ⟨g, 0, none⟩) n n) n xs) (hx : xs = (List.replicate n (0 : Int)).map (Value.int .i64)) : IAt w (some ⟨g, 0, none⟩) (List.replicate n 0) := by
  rcases h.2 with ⟨h1, _⟩ | ⟨g', cap, cur, hv, hbg, hg, hnc, hcm, hcs, htake⟩
  · simp at h1
  · simp at hv
    obtain ⟨rfl, rfl⟩ := hv
    have : cur.toList = xs := by rw [← htake, List.take_of_length_le (by simp [hcs])]
    refine IAt.of_block (t := e) ?_
    rw [hg, ← hx, ← this]
theorem copy_set (l : List Int) {k : Nat} (hk : k < l.length) : l.take (k + 1) ++ List.replicate (l.length - (k + 1)) 0 = (l.take k ++ List.replicate (l.length - k) 0).set k l[k] := by
  rw [List.set_append_right _ _ (by rw [List.length_take]; omega), List.length_take, Nat.min_eq_left (by omega), Nat.sub_self]
  obtain ⟨d, hd⟩ : ∃ d, l.length - k = d + 1 := ⟨l.length - k - 1, by omega⟩
  rw [hd, show l.length - (k + 1) = d by omega, List.replicate_succ, List.set_cons_zero, List.take_succ_eq_append_getElem hk, List.append_assoc]
  rfl

end Go.Proofs.YtchfpiadfmnphaaDoor
namespace Go.Proofs.YtchfpiadfmnphaaDoor
open Go.RowKit
set_option linter.unusedVariables false

/- Of n elements of s cells each, in block g, the first d are as L says; all may be written. -/
structure BldV (w : World) (g s n : Nat) (L : List (List Value)) (d : Nat) : Prop where
  ths : w.there g 0 (n * s)
  rng : ∀ i (h : i < L.length), i < d → w.rangeAt g (i * s) L[i]
theorem BldV.same {w w' : World} {g s n : Nat} {L : List (List Value)} {d : Nat} (h : BldV w g s n L d) (hs : ∀ k, w'.cell? ⟨g, k, none⟩ = w.cell? ⟨g, k, none⟩ ∧ w'.frozen? ⟨g, k, none⟩ = w.frozen? ⟨g, k, none⟩) : BldV w' g s n L d :=
  ⟨fun j hj => by rw [(hs _).1, (hs _).2]; exact h.ths j hj, fun i hi hid j v hv => by rw [(hs _).1]; exact h.rng i hi hid j v hv⟩
theorem BldV.below {w w' : World} {g s n B : Nat} {L : List (List Value)} {d : Nat} (h : BldV w g s n L d) (hb : Below B w w') (hB : g < B) : BldV w' g s n L d :=
  h.same fun k => ⟨hb.cell (p := ⟨g, k, none⟩) hB, hb.frozen (p := ⟨g, k, none⟩) hB⟩
theorem there_part {w : World} {g s n d : Nat} (h : w.there g 0 (n * s)) (hd : d < n) : w.there g (d * s) s := fun j hj => by
  have := h (d * s + j) (by have : (d + 1) * s ≤ n * s := Nat.mul_le_mul_right s hd; rw [Nat.add_mul, Nat.one_mul] at this; omega)
  rw [Nat.zero_add] at this
  exact this
theorem BldV.step {w : World} {g s n : Nat} {L : List (List Value)} {d : Nat} (h : BldV w g s n L d) (hd : d < n) (hL : d < L.length) (hs : ∀ l ∈ L, l.length = s) : BldV (w.setCells g (d * s) L[d]) g s n L (d + 1) := by
  refine ⟨World.there_setCells h.ths _ _ _, fun i hi hid => ?_⟩
  by_cases he : i = d
  · subst he
    refine World.rangeAt_setCells_same w g _ _ ?_
    rw [hs _ (List.getElem_mem hi)]
    exact there_part h.ths hd
  · have hid' : i < d := by omega
    refine World.rangeAt_setCells_apart (h.rng i hi hid') _ _ _ (.inr (.inl ?_))
    rw [hs _ (List.getElem_mem hi)]
    have : (i + 1) * s ≤ d * s := Nat.mul_le_mul_right s hid'
    rw [Nat.add_mul, Nat.one_mul] at this
    exact this
theorem BldV.made {w : World} {base e g s n : Nat} {xs : List Value} {L : List (List Value)} (h : w.ownsRow base e s (.slice (some ⟨g, 0, none⟩) n n) n xs) : BldV w g s n L 0 := by
  rcases h.2 with ⟨h1, _⟩ | ⟨g', cap, cur, hv, hbg, hg, hnc, hcm, hcs, htake⟩
  · simp at h1
  · simp at hv
    obtain ⟨rfl, rfl⟩ := hv
    refine ⟨fun j hj => ?_, fun i _ h0 => absurd h0 (Nat.not_lt_zero _)⟩
    rw [Nat.zero_add]
    have hjc : j < cur.size := by rw [hcs]; exact hj
    exact ⟨by simp [World.cell?, hg, hjc], by simp [World.frozen?, hg]⟩
theorem below_alloc (w : World) (o : Obj) : Below w.heap.size w (w.alloc o) := (Below.refl _ _).alloc (Nat.le_refl _) _
theorem below_set {w : World} {B g o : Nat} {l : List Value} (h : B ≤ g) : Below B w (w.setCells g o l) := Lib.below_setCells_w h _ _ _
theorem szA (w : World) (o : Obj) : (w.alloc o).heap.size = w.heap.size + 1 := Array.size_push _
theorem wpList_storeAt {P : Program} {ops : Array Oper} {rest : List Oper} {o : Oper} {a : Act} {w : World} {Q : Exit → Act → World → Prop} (hg : o.guard = none) (t : TypeId) (x y : Operand) (ho : o.op = .store t x y) (g p n : Nat) (l : List Value)
    (hx : a.eval x = .pointer (some ⟨g, p, none⟩)) (hy : a.eval y = .agg l.toArray) (hl : w.there g p n) (hi : (P.info? t).map (·.size) = some n) (hn : l.length = n) (h1 : ∀ v ∈ l, v.oneCell' = true)
    (h : wpList P ops Q rest (a.put o.dst undef) (w.setCells g p l)) : wpList P ops Q (o :: rest) a w := by
  subst hn
  exact wpList_store_mid hg t x y ho g p l.toArray hx hy (by simp only [List.size_toArray]; exact hl) (by simp only [List.size_toArray]; exact hi) (by rw [Array.all_eq_true_iff_forall_mem]; intro v hv; exact h1 v (by simpa using hv)) h
def plainV : Value → Bool
  | .int _ _ => true
  | .string _ => true
  | .slice _ _ _ => true
  | _ => false
theorem wpList_cellV {P : Program} {ops : Array Oper} {rest : List Oper} {o : Oper} {a : Act} {w : World} {Q : Exit → Act → World → Prop} (hg : o.guard = none) (t : TypeId) (x y : Operand) (ho : o.op = .store t x y) (g k : Nat) (l l' : List Value) (v : Value)
    (hx : a.eval x = .pointer (some ⟨g, k, none⟩)) (hy : a.eval y = v) (hp : plainV v = true) (hi : (P.info? t).map (·.size) = some 1) (hl : RowV w g l) (hk : k < l.length) (hl' : l' = l.set k v)
    (h : ∀ w', RowV w' g l' → (∀ B, B ≤ g → Below B w w') → (∀ x : Addr, x.block ≠ g → w'.cell? x = w.cell? x ∧ w'.frozen? x = w.frozen? x) → w'.heap.size = w.heap.size → wpList P ops Q rest (a.put o.dst undef) w') : wpList P ops Q (o :: rest) a w := by
  refine wpList_plain hg fun K hK => ?_
  have hc : w.cell? ⟨g, k, none⟩ = some l[k] := hl.cell (List.getElem?_eq_getElem hk)
  have hf : w.frozen? ⟨g, k, none⟩ = false := hl.frozen hk
  have hh := h _ (hl.setAt hk hl') (fun B hB => (Below.refl B w).setCell hB v) (fun x hx => ⟨World.cell?_setCell_other w _ _ v (by intro e; rw [← e] at hx; exact hx rfl), World.frozen?_setCell ..⟩) (World.size_setCell ..)
  generalize l[k] = u at hc
  obtain ⟨ti, hti, hts⟩ := Option.map_eq_some_iff.1 hi
  cases v with
  | int kd n =>
    simp only [Oper.wp, execOp, ho, hx, hy, Instr.storeAt, Instr.sureAddr, Sem.run_bind, Sem.run_pure, Result.andThen_ok]
    simp [go_sem, hc, hf, hti, hts, storeCells, sizeOf, typeInfo]
    exact hK _ _ hh
  | string s =>
    simp only [Oper.wp, execOp, ho, hx, hy, Instr.storeAt, Instr.sureAddr, Sem.run_bind, Sem.run_pure, Result.andThen_ok]
    simp [go_sem, hc, hf, hti, hts, storeCells, sizeOf, typeInfo]
    exact hK _ _ hh
  | slice p n c =>
    simp only [Oper.wp, execOp, ho, hx, hy, Instr.storeAt, Instr.sureAddr, Sem.run_bind, Sem.run_pure, Result.andThen_ok]
    simp [go_sem, hc, hf, hti, hts, storeCells, sizeOf, typeInfo]
    exact hK _ _ hh
  | _ => simp [plainV] at hp
theorem same_far {w w' : World} {x : Addr} (h : w'.heap[x.block]? = w.heap[x.block]?) : w'.cell? x = w.cell? x ∧ w'.frozen? x = w.frozen? x := by
  unfold World.cell? World.frozen?
  rw [h]
  exact ⟨rfl, rfl⟩
theorem hidP {P : Prop} (h : P) : Hid P := h
theorem Tryd.siz1I : (Tryd.prog.info? 2).map (·.size) = some 1 := by kernel_rfl
theorem wanted_free {o : Oper} {y : Nat → Option Bool} (h : o.guard = none) : Region.wanted o y = true := by simp [Region.wanted, h]
end Go.Proofs.YtchfpiadfmnphaaDoor
