/- Variables of several cells (a struct, an array) that lie in a block of their own, as wholes; what the operations on them do. HashBegin of both sides; the laws' helpers eqHash, markHash, heldHash. The laws' helpers szInt64S, toInt64S, szHash, toHash: what they answer of a slice of numbers that came in. -/
import Derived.Test.YtdfglpbappeoaaaGreatDoorIntRow
import Derived.Deep.MidRow
import Derived.Great.Ranges
import Derived.Lib.EndianMore
import Derived.OwnWalk
namespace Go.Proofs.YtdfglpbappeoaaaGreatDoor
open Go.RowKit
set_option linter.unusedVariables false

structure RowV (w : World) (g : Nat) (l : List Value) : Prop where
  rng : w.rangeAt g 0 l
  ths : w.there g 0 l.length
theorem RowV.of_block {w : World} {g : Nat} {l : List Value} {t : TypeId} (h : w.heap[g]? = some (.cells l.toArray t (0, 0))) : RowV w g l := by
  refine ⟨fun j v hv => ?_, fun j hj => ⟨?_, ?_⟩⟩
  · simpa [World.cell?, h] using hv
  · simp [World.cell?, h, hj]
  · simp [World.frozen?, h]
theorem RowV.new (w : World) (l : List Value) (t : TypeId) : RowV (w.alloc (.cells l.toArray t)) w.heap.size l := RowV.of_block (heap_alloc_new w _)
theorem RowV.cell {w : World} {g : Nat} {l : List Value} (h : RowV w g l) {k : Nat} {v : Value} (hk : l[k]? = some v) : w.cell? ⟨g, k, none⟩ = some v := by
  have := h.rng k v hk
  rw [Nat.zero_add] at this
  exact this
theorem RowV.lt {w : World} {g : Nat} {l : List Value} (h : RowV w g l) (hl : l ≠ []) : g < w.heap.size := by
  cases l with
  | nil => exact absurd rfl hl
  | cons v r => exact cellLt (h.cell (k := 0) rfl)
theorem RowV.frozen {w : World} {g : Nat} {l : List Value} (h : RowV w g l) {k : Nat} (hk : k < l.length) : w.frozen? ⟨g, k, none⟩ = false := by
  have := (h.ths k hk).2
  rw [Nat.zero_add] at this
  exact this
theorem RowV.same {w w' : World} {g : Nat} {l : List Value} (h : RowV w g l) (hs : ∀ k, w'.cell? ⟨g, k, none⟩ = w.cell? ⟨g, k, none⟩ ∧ w'.frozen? ⟨g, k, none⟩ = w.frozen? ⟨g, k, none⟩) : RowV w' g l :=
  ⟨fun j v hv => (hs _).1.trans (h.rng j v hv), fun j hj => by rw [(hs _).1, (hs _).2]; exact h.ths j hj⟩
theorem RowV.below {w w' : World} {g B : Nat} {l : List Value} (h : RowV w g l) (hb : Below B w w') (hB : g < B) : RowV w' g l :=
  h.same fun k => ⟨hb.cell (p := ⟨g, k, none⟩) hB, hb.frozen (p := ⟨g, k, none⟩) hB⟩
theorem RowV.drew {w : World} {g : Nat} {l : List Value} (h : RowV w g l) : RowV w.drew g l := ⟨h.rng, h.ths⟩
theorem RowV.drewN {w : World} {g : Nat} {l : List Value} (h : RowV w g l) (n : Nat) : RowV (w.drewN n) g l := ⟨h.rng, h.ths⟩
theorem RowV.put {w : World} {g : Nat} {l l' : List Value} (h : RowV w g l) (hl : l'.length = l.length) : RowV (w.setCells g 0 l') g l' :=
  ⟨World.rangeAt_setCells_same w g 0 l' (by rw [hl]; exact h.ths), by rw [hl]; exact World.there_setCells h.ths g 0 l'⟩

theorem setCells_size (g : Nat) : ∀ (l : List Value) (o : Nat) (w : World), (w.setCells g o l).heap.size = w.heap.size
  | [], _, _ => rfl
  | v :: r, o, w => by rw [World.setCells, setCells_size g r, World.size_setCell]
theorem wpList_boxV {P : Program} {ops : Array Oper} {rest : List Oper} {o : Oper} {a : Act} {w : World} {Q : Exit → Act → World → Prop} (hg : o.guard = none) (t : TypeId) (x : Operand) (ho : o.op = .box t x) (l : List Value) (hx : a.eval x = .agg l.toArray)
    (h : ∀ w', RowV w' w.heap.size l → Below w.heap.size w w' → w'.heap.size = w.heap.size + 1 → wpList P ops Q rest (a.put o.dst (.pointer (some ⟨w.heap.size, 0, none⟩))) w') : wpList P ops Q (o :: rest) a w :=
  Great.wpList_boxTo hg t x ho o.dst rfl w.heap.size rfl l.toArray (by rw [hx]; rfl)
    (h _ (RowV.new w l t) ((Below.refl _ _).alloc (Nat.le_refl _) _) (Array.size_push _))
theorem wpList_allocV {P : Program} {ops : Array Oper} {rest : List Oper} {o : Oper} {a : Act} {w : World} {Q : Exit → Act → World → Prop} (hg : o.guard = none) (t : TypeId) (ho : o.op = .alloc t) (l : List Value)
    (hi : (P.info? t).map (fun i => i.zero) = some (some (.agg l.toArray)))
    (h : ∀ w', RowV w' w.heap.size l → Below w.heap.size w w' → w'.heap.size = w.heap.size + 1 → wpList P ops Q rest (a.put o.dst (.pointer (some ⟨w.heap.size, 0, none⟩))) w') : wpList P ops Q (o :: rest) a w := by
  refine wpList_plain hg fun K hK => ?_
  cases hq : P.info? t with
  | none => simp [hq] at hi
  | some i =>
    have hz : i.zero = some (.agg l.toArray) := by simpa [hq] using hi
    unfold Oper.wp execOp
    simp only [ho, Sem.run_bind, Instr.alloc, zeroValue, run_typeInfo w hq, hz, newVar, newRow, run_newObj_alloc, Sem.run_pure, Result.andThen_ok]
    exact hK _ _ (h _ (RowV.new w _ t) ((Below.refl _ _).alloc (Nat.le_refl _) _) (Array.size_push _))
theorem wpList_loadV {P : Program} {ops : Array Oper} {rest : List Oper} {o : Oper} {a : Act} {w : World} {Q : Exit → Act → World → Prop} (hg : o.guard = none) (t : TypeId) (x : Operand) (ho : o.op = .load t x) (g : Nat) (l : List Value)
    (hx : a.eval x = .pointer (some ⟨g, 0, none⟩)) (hl : RowV w g l) (hu : ∃ d, P.underlying t = some d ∧ d.isRow = true) (n : Nat) (hi : (P.info? t).map (·.size) = some n) (hn : l.length = n)
    (h : wpList P ops Q rest (a.put o.dst (.agg l.toArray)) w) : wpList P ops Q (o :: rest) a w := by
  obtain ⟨d, hd, hr⟩ := hu
  exact wpList_load_mid hg t x ho g 0 hx l d hl.rng hd hr (by rw [hn]; exact hi) h
theorem wpList_storeV {P : Program} {ops : Array Oper} {rest : List Oper} {o : Oper} {a : Act} {w : World} {Q : Exit → Act → World → Prop} (hg : o.guard = none) (t : TypeId) (x y : Operand) (ho : o.op = .store t x y) (g : Nat) (l l' : List Value)
    (hx : a.eval x = .pointer (some ⟨g, 0, none⟩)) (hy : a.eval y = .agg l'.toArray) (hl : RowV w g l) (n : Nat) (hi : (P.info? t).map (·.size) = some n) (hn : l.length = n) (hn' : l'.length = n) (h1 : ∀ v ∈ l', v.oneCell' = true)
    (h : ∀ w', RowV w' g l' → (∀ B, B ≤ g → Below B w w') → (∀ x : Addr, x.block ≠ g → w'.cell? x = w.cell? x ∧ w'.frozen? x = w.frozen? x) → w'.heap.size = w.heap.size → wpList P ops Q rest (a.put o.dst undef) w') : wpList P ops Q (o :: rest) a w := by
  subst hn
  refine wpList_store_mid hg t x y ho g 0 l'.toArray hx hy (by simp only [List.size_toArray, hn']; exact hl.ths) (by simp only [List.size_toArray, hn']; exact hi) (by rw [Array.all_eq_true_iff_forall_mem]; intro v hv; exact h1 v (by simpa using hv)) ?_
  refine h _ (hl.put hn') (fun B hB => Lib.below_setCells_w hB _ _ _) (fun x hx => ⟨World.cell?_setCells_out g _ _ _ x (fun e => absurd e hx), World.frozen?_setCells g _ _ _ x⟩) ?_
  exact setCells_size g _ 0 w
theorem results_V {P : Program} {fn : Func} {a : Tmp} {t : TypeId} {w : World} (h : fn.results = #[.cell a t]) (tmps : Array Value) (g : Nat) (l : List Value) (hx : tmps.getD a undef = .pointer (some ⟨g, 0, none⟩))
    (hl : RowV w g l) (hu : ∃ d, P.underlying t = some d ∧ d.isRow = true) (n : Nat) (hi : (P.info? t).map (·.size) = some n) (hn : l.length = n) : (results fn tmps).run P w = .ok (.agg l.toArray) w := by
  obtain ⟨d, hd, hr⟩ := hu
  have := run_loadVar_mid (P := P) w g 0 t l d hl.rng hd hr (by rw [hn]; exact hi)
  rw [Array.getD_eq_getD_getElem?] at hx
  simp [results, h, hx, asAddr, this]
end Go.Proofs.YtdfglpbappeoaaaGreatDoor
namespace Go.Proofs.YtdfglpbappeoaaaGreatDoor
open Go.RowKit
set_option linter.unusedVariables false

def hvs (a : Option Addr) (n c : Nat) (s : ByteArray) (z : Int) : List Value := [.slice a n c, .string s, .int .i64 z]
abbrev HVal (a : Option Addr) (n c : Nat) (s : ByteArray) (z : Int) : Value := .agg (hvs a n c s z).toArray
theorem hvs_one (a : Option Addr) (n c : Nat) (s : ByteArray) (z : Int) : ∀ v ∈ hvs a n c s z, v.oneCell' = true := by
  intro v hv
  simp [hvs] at hv
  rcases hv with h | h | h <;> (rw [h]; rfl)
def iv : List Int := [1779033703, 3144134277, 1013904242, 2773480762, 1359893119, 2600822924, 528734635, 1541459225]
theorem iv_length : iv.length = 8 := rfl
theorem IAt.of_block {w : World} {g : Nat} {l : List Int} {t : TypeId} (h : w.heap[g]? = some (.cells (l.map (Value.int .i64)).toArray t (0, 0))) : IAt w (some ⟨g, 0, none⟩) l := fun _ => by
  refine ⟨g, rfl, fun k hk => ⟨?_, ?_⟩⟩
  · simp [World.cell?, h, hk]
  · simp [World.frozen?, h]
theorem size_alloc (w : World) (o : Obj) : (w.alloc o).heap.size = w.heap.size + 1 := Array.size_push _
theorem two_alloc (w : World) (A : Obj) (l : List Int) (t : TypeId) : IAt ((w.alloc A).alloc (.cells (l.map (Value.int .i64)).toArray t)) (some ⟨w.heap.size + 1, 0, none⟩) l := by
  have h := heap_alloc_new (w.alloc A) (.cells (l.map (Value.int .i64)).toArray t)
  rw [size_alloc] at h
  exact IAt.of_block h
theorem Tryz.infoH : (Tryz.prog.info? 99).map (fun i => i.zero) = some (some (.agg (hvs none 0 0 ⟨#[]⟩ 0).toArray)) := by kernel_rfl
theorem Tryz.undH : ∃ d, Tryz.prog.underlying 99 = some d ∧ d.isRow = true := ⟨_, Tryz.underlying99, rfl⟩
theorem Tryz.sizeH : (Tryz.prog.info? 99).map (·.size) = some 3 := by kernel_rfl

set_option maxRecDepth 100000 in
set_option maxHeartbeats 1000000 in
theorem start_any (w : World) :
    Calls Tryz.prog 98 #[] w fun e w' => e = .returned (.slice (some ⟨w.heap.size, 0, none⟩) 8 8) ∧ IAt w' (some ⟨w.heap.size, 0, none⟩) iv ∧ Below w.heap.size w w' ∧ w'.heap.size = w.heap.size + 1 := by
  go_enter Tryz.func98, Tryz.ntmps98
  go_wp2
  go_ret
  refine ⟨rfl, ?_, (Below.refl _ _).alloc (Nat.le_refl _) _, size_alloc _ _⟩
  exact IAt.of_block (t := 2) (heap_alloc_new w _)
set_option maxRecDepth 100000 in
set_option maxHeartbeats 1000000 in
theorem beginI_any (w : World) :
    Calls Tryz.prog 108 #[] w fun e w' => ∃ g, e = .returned (HVal (some ⟨g, 0, none⟩) 8 8 ⟨#[]⟩ 0) ∧ w.heap.size ≤ g ∧ g < w'.heap.size ∧ IAt w' (some ⟨g, 0, none⟩) iv ∧ Below w.heap.size w w' := by
  go_enter Tryz.func108, Tryz.ntmps108
  go_wp2
  refine bodyPost_ret (v := HVal (some ⟨w.heap.size + 1, 0, none⟩) 8 8 ⟨#[]⟩ 0) (by simp [results, Tryz.results108, go_sem, HVal, hvs]) rfl ⟨w.heap.size + 1, rfl, by omega, by rw [size_alloc, size_alloc]; omega, ?_, ((Below.refl _ _).alloc (Nat.le_refl _) _).alloc (by rw [size_alloc]; omega) _⟩
  exact two_alloc w _ iv 2
set_option maxRecDepth 100000 in
set_option maxHeartbeats 1000000 in
theorem beginS_any (w : World) :
    Calls Tryz.prog 64 #[] w fun e w' => ∃ g, e = .returned (HVal (some ⟨g, 0, none⟩) 8 8 ⟨#[]⟩ 0) ∧ w.heap.size ≤ g ∧ g < w'.heap.size ∧ IAt w' (some ⟨g, 0, none⟩) iv ∧ Below w.heap.size w w' := by
  go_enter Tryz.func64, Tryz.ntmps64
  go_wp2_with (first
    | (with_reducible refine wpList_allocV (w := w) (by with_unfolding_all rfl) 99 (by with_unfolding_all rfl) (hvs none 0 0 ⟨#[]⟩ 0) Tryz.infoH ?_; intro w1 hA1 hB1 hS1)
    | (go_at_call 98; refine (start_any _).mono ?_; rintro e w2 ⟨rfl, h2, hB2, hS2⟩)
    | (with_reducible refine wpList_storeV (w := w2) (by with_unfolding_all rfl) 99 (.tmp 0) (.tmp 2) (by with_unfolding_all rfl) w.heap.size (hvs none 0 0 ⟨#[]⟩ 0) (hvs (some ⟨w.heap.size + 1, 0, none⟩) 8 8 ⟨#[]⟩ 0) (by with_unfolding_all rfl) (by with_unfolding_all rfl) (hA1.below hB2 (by omega)) 3 Tryz.sizeH (by with_unfolding_all rfl) (by with_unfolding_all rfl) (hvs_one _ _ _ _ _) ?_; intro w3 hA3 hB3 hF3 hS3))
  rw [hS1] at h2
  refine bodyPost_ret (results_V (t := 99) rfl _ w.heap.size _ rfl hA3 Tryz.undH 3 Tryz.sizeH rfl) rfl ⟨w.heap.size + 1, rfl, by omega, by omega, ?_, (hB1.trans (hB2.mono (by omega))).trans (hB3 _ (Nat.le_refl _))⟩
  intro hne
  obtain ⟨g, hg, hc⟩ := h2 hne
  refine ⟨g, hg, fun k hk => ?_⟩
  injection hg with hg
  injection hg with hg
  have := hF3 ⟨g, k, none⟩ (by show g ≠ w.heap.size; omega)
  exact ⟨this.1.trans (hc k hk).1, this.2.trans (hc k hk).2⟩

/- Everything that was there but the row is as it was. -/
structure WroteOld (a : Option Addr) (w w' : World) : Prop where
  far : ∀ x : Addr, x.block < w.heap.size → (∀ ad, a = some ad → x.block ≠ ad.block) → w'.cell? x = w.cell? x ∧ w'.frozen? x = w.frozen? x
  below : ∀ B, B ≤ w.heap.size → (∀ ad, a = some ad → B ≤ ad.block) → Below B w w'
  size : w.heap.size ≤ w'.heap.size
theorem WroteOld.row {a : Option Addr} {w w' : World} (h : WroteOld a w w') {g : Nat} {l : List Value} (hr : RowV w g l) (hg : g < w.heap.size) (hne : ∀ ad, a = some ad → g ≠ ad.block) : RowV w' g l :=
  hr.same fun k => h.far ⟨g, k, none⟩ hg hne
theorem WroteOld.irow {a : Option Addr} {w w' : World} (h : WroteOld a w w') {b : Option Addr} {l : List Int} (hr : IAt w b l) (hne : ∀ ad bd, a = some ad → b = some bd → bd.block ≠ ad.block) : IAt w' b l := fun hl => by
  obtain ⟨g, hg, hc⟩ := hr hl
  refine ⟨g, hg, fun k hk => ?_⟩
  have := h.far ⟨g, k, none⟩ (cellLt (hc k hk).1) (fun ad ha => hne ad ⟨g, 0, none⟩ ha hg)
  exact ⟨this.1.trans (hc k hk).1, this.2.trans (hc k hk).2⟩

/- Two variables that hold a Hash each, and their rows. -/
structure St (w : World) (b1 b2 g1 g2 : Nat) (l2 : List Int) : Prop where
  v1 : RowV w b1 (hvs (some ⟨g1, 0, none⟩) 8 8 ⟨#[]⟩ 0)
  v2 : RowV w b2 (hvs (some ⟨g2, 0, none⟩) 8 8 ⟨#[]⟩ 0)
  i1 : IAt w (some ⟨g1, 0, none⟩) iv
  i2 : IAt w (some ⟨g2, 0, none⟩) l2
theorem hvs_ne (a : Option Addr) (n c : Nat) (s : ByteArray) (z : Int) : hvs a n c s z ≠ [] := by simp [hvs]
theorem St.below {w w' : World} {b1 b2 g1 g2 : Nat} {l2 : List Int} (h : St w b1 b2 g1 g2 l2) (hb : Below w.heap.size w w') : St w' b1 b2 g1 g2 l2 :=
  ⟨h.v1.below hb (h.v1.lt (hvs_ne _ _ _ _ _)), h.v2.below hb (h.v2.lt (hvs_ne _ _ _ _ _)), h.i1.below hb, h.i2.below hb⟩
theorem St.marked {w w' : World} {b1 b2 g1 g2 : Nat} {l2 l3 : List Int} (h : St w b1 b2 g1 g2 l2) (hw : WroteOld (some ⟨g2, 0, none⟩) w w') (hi : IAt w' (some ⟨g2, 0, none⟩) l3) (n1 : b1 ≠ g2) (n2 : b2 ≠ g2) (n3 : g1 ≠ g2) : St w' b1 b2 g1 g2 l3 :=
  ⟨hw.row h.v1 (h.v1.lt (hvs_ne _ _ _ _ _)) (fun ad e => by injection e with e; subst e; exact n1), hw.row h.v2 (h.v2.lt (hvs_ne _ _ _ _ _)) (fun ad e => by injection e with e; subst e; exact n2),
    hw.irow h.i1 (fun ad bd e1 e2 => by injection e1 with e1; injection e2 with e2; subst e1; subst e2; exact n3), hi⟩
end Go.Proofs.YtdfglpbappeoaaaGreatDoor
namespace Go.Proofs.YtdfglpbappeoaaaGreatDoor
open Go.RowKit
set_option linter.unusedVariables false

def AI (w : World) (a : Option Addr) (l : List Int) : Prop := ∀ k (h : k < l.length), ∃ b o, a = some ⟨b, o, none⟩ ∧ w.cell? ⟨b, o + k, none⟩ = some (.int .i64 l[k])
theorem AI.below {w w' : World} {a : Option Addr} {l : List Int} (h : AI w a l) (hb : Below w.heap.size w w') : AI w' a l := fun k hk => by
  obtain ⟨b, o, ha, hc⟩ := h k hk
  exact ⟨b, o, ha, (hb.cell (p := ⟨b, o + k, none⟩) (cellLt hc)).trans hc⟩
theorem IAt.set {w : World} {g k : Nat} {l l' : List Int} {x : Int} (h : IAt w (some ⟨g, 0, none⟩) l) (hk : k < l.length) (hl : l' = l.set k x) : IAt (w.setCell ⟨g, k, none⟩ (.int .i64 x)) (some ⟨g, 0, none⟩) l' := fun _ => by
  subst hl
  obtain ⟨g', hg', hc⟩ := h (by intro e; rw [e] at hk; simp at hk)
  injection hg' with hg'
  injection hg' with hg'
  subst hg'
  refine ⟨g, rfl, fun j hj => ?_⟩
  have hj' : j < l.length := by simpa using hj
  rw [World.frozen?_setCell]
  refine ⟨?_, (hc j hj').2⟩
  by_cases hjk : j = k
  · subst hjk
    rw [World.cell?_setCell_same w _ _ (hc j hk).1]
    simp
  · rw [World.cell?_setCell_other w _ _ _ (by intro e; injection e with _ e _; exact hjk e.symm), (hc j hj').1]
    rw [List.getElem_set_ne (fun e => hjk e.symm)]
theorem RowV.setAt {w : World} {g k : Nat} {l l' : List Value} {v : Value} (h : RowV w g l) (hk : k < l.length) (hl : l' = l.set k v) : RowV (w.setCell ⟨g, k, none⟩ v) g l' := by
  subst hl
  obtain ⟨u, hu⟩ : ∃ u, w.cell? ⟨g, k, none⟩ = some u := ⟨l[k], h.cell (List.getElem?_eq_getElem hk)⟩
  refine ⟨fun j x hx => ?_, fun j hj => ⟨?_, ?_⟩⟩
  · rw [Nat.zero_add]
    by_cases hjk : j = k
    · subst hjk
      rw [World.cell?_setCell_same w _ _ hu]
      simpa [hk] using hx
    · rw [World.cell?_setCell_other w _ _ _ (by intro e; injection e with _ e _; exact hjk e.symm)]
      exact h.cell (by rw [← hx, List.getElem?_set_ne (fun e => hjk e.symm)])
  · rw [Nat.zero_add]
    by_cases hjk : j = k
    · subst hjk
      rw [World.cell?_setCell_same w _ _ hu]; rfl
    · rw [World.cell?_setCell_other w _ _ _ (by intro e; injection e with _ e _; exact hjk e.symm)]
      have := (h.ths j (by simpa using hj)).1
      rw [Nat.zero_add] at this
      exact this
  · rw [World.frozen?_setCell]
    exact (h.ths j (by simpa using hj)).2
theorem Tryz.infoNum : (Tryz.prog.info? 2).map (fun i => (i.zero, i.size, i.bytes)) = some (some (.int .i64 0), 1, 8) := by kernel_rfl
theorem made_zeroI (n : Nat) : (madeCells #[Value.int .i64 0] n).toList = (List.replicate n (0 : Int)).map (Value.int .i64) := by
  apply List.ext_getElem
  · simp [madeCells]
  · intro i h1 h2
    simp [madeCells, Nat.mod_one]
theorem IAt.made {w : World} {base e g n : Nat} {xs : List Value} (h : w.ownsRow base e 1 (.slice (some ⟨g, 0, none⟩) n n) n xs) (hx : xs = (List.replicate n (0 : Int)).map (Value.int .i64)) : IAt w (some ⟨g, 0, none⟩) (List.replicate n 0) := by
  rcases h.2 with ⟨h1, _⟩ | ⟨g', cap, cur, hv, hbg, hg, hnc, hcm, hcs, htake⟩
  · simp at h1
  · simp at hv
    obtain ⟨rfl, rfl⟩ := hv
    have : cur.toList = xs := by rw [← htake, List.take_of_length_le (by simp [hcs])]
    refine IAt.of_block (t := e) ?_
    rw [hg, ← hx, ← this]
theorem copy_set (l : List Int) {k : Nat} (hk : k < l.length) : l.take (k + 1) ++ List.replicate (l.length - (k + 1)) 0 = (l.take k ++ List.replicate (l.length - k) 0).set k l[k] := by
  rw [List.set_append_right _ _ (by rw [List.length_take]; omega), List.length_take, Nat.min_eq_left (by omega), Nat.sub_self]
  obtain ⟨d, hd⟩ : ∃ d, l.length - k = d + 1 := ⟨l.length - k - 1, by omega⟩
  rw [hd, show l.length - (k + 1) = d by omega, List.replicate_succ, List.set_cons_zero, List.take_succ_eq_append_getElem hk, List.append_assoc]
  rfl

set_option maxRecDepth 100000 in
set_option maxHeartbeats 1000000 in
theorem toI_any (a : Option Addr) (c n : Nat) (l : List Int) (w : World) (hn : l.length = n) (h : AI w a l) (hb : n ≤ 1048576) :
    Calls Tryz.prog 120 #[.slice a n c] w fun e w' => e = .returned (.slice (some ⟨w.heap.size, 0, none⟩) n n) ∧ IAt w' (some ⟨w.heap.size, 0, none⟩) l ∧ Below w.heap.size w w' ∧ w.heap.size < w'.heap.size := by
  have HA : Hid (AI w a l) := h
  have HN : Hid (l.length = n) := hn
  clear h hn
  obtain ⟨i0, hi, hz0, hz1, hz2⟩ := info_parts Tryz.infoNum
  go_enter Tryz.func120, Tryz.ntmps120
  go_wp2_with (first
    | (at_make; refine wpList_make_full _ rfl _ _ 97 rfl w.heap.size 2 i0 (.int .i64 0) 1 Tryz.underlying97 hi hz0 hz1 _ _ _ _ n rfl rfl (by omega) (by omega) (by rw [hz2]; omega) (by unfold maxLen; omega) (Nat.le_refl _) ?_))
  intro w1 hown1 hgr1
  have HI1 : Hid (IAt w1 (some ⟨w.heap.size, 0, none⟩) (l.take 0 ++ List.replicate (l.length - 0) 0)) := by
    rw [HN.out]
    exact IAt.made hown1 (made_zeroI _)
  have HL1 : Hid (w.heap.size < w1.heap.size) := (hown1.lt w.heap.size rfl).2
  have hb1 : Below w.heap.size w w1 := (Below.refl _ _).grown hgr1 (Nat.le_refl _) (fun _ h => by cases h)
  clear hown1 hgr1 hi hz0 hz1 hz2
  go_wp2_with fail
  go_loopw [4] (fun i wr => ∃ k : Nat, i = .int .i64 (k : Int) ∧ k ≤ n ∧ IAt wr (some ⟨w.heap.size, 0, none⟩) (l.take k ++ List.replicate (l.length - k) 0) ∧ Below w.heap.size w wr ∧ w.heap.size < wr.heap.size) (fun i _ => n - (intOf i).toNat)
  case atStart => exact ⟨0, rfl, Nat.zero_le _, HI1.out, hb1, HL1.out⟩
  case round =>
    obtain ⟨k, rfl, hk, hI, hB, hL⟩ := hrel
    have H8 : Hid (IAt wr (some ⟨w.heap.size, 0, none⟩) (l.take k ++ List.replicate (l.length - k) 0) ∧ Below w.heap.size w wr ∧ w.heap.size < wr.heap.size) := ⟨hI, hB, hL⟩
    by_cases hlt : k < n
    · have hkl : k < l.length := by have := HN.out; omega
      have hlen : k < (l.take k ++ List.replicate (l.length - k) 0).length := by simp; omega
      obtain ⟨b, o, rfl, ca⟩ := HA.out.below hB k hkl
      obtain ⟨g', hg', hc⟩ := hI (by intro e; rw [e] at hlen; simp at hlen)
      injection hg' with hg'
      injection hg' with hg'
      subst hg'
      have cg := (hc k hlen).1
      have hfz := (hc k hlen).2
      generalize (l.take k ++ List.replicate (l.length - k) 0)[k] = y at cg
      have HS : Hid (True → l.take (k + 1) ++ List.replicate (l.length - (k + 1)) 0 = (l.take k ++ List.replicate (l.length - k) 0).set k l[k]) := fun _ => copy_set l hkl
      generalize l[k] = x at *
      have H9 : Hid (IAt (wr.setCell ⟨w.heap.size, k, none⟩ (.int .i64 x)) (some ⟨w.heap.size, 0, none⟩) (l.take (k + 1) ++ List.replicate (l.length - (k + 1)) 0) ∧ Below w.heap.size w (wr.setCell ⟨w.heap.size, k, none⟩ (.int .i64 x)) ∧ w.heap.size < (wr.setCell ⟨w.heap.size, k, none⟩ (.int .i64 x)).heap.size) :=
        ⟨H8.out.1.set hlen (HS.out trivial), H8.out.2.1.setCell (Nat.le_refl _) _, by rw [World.size_setCell]; exact hL⟩
      have lk : (k : Int) < n := by omega
      have l0 : (0 : Int) ≤ k := by omega
      clear hI hB hL hc hlen hkl H8 HI1 HA hb1
      go_wp2
      go_roundw
      case rel => exact ⟨k + 1, by go_num, hlt, H9.out.1, H9.out.2.1, H9.out.2.2⟩
      case measure => simp [intOf]; omega
    · obtain rfl : k = n := by omega
      go_wp2
      go_ret
      refine ⟨rfl, ?_, hB, hL⟩
      have := H8.out.1
      rw [List.take_of_length_le (by have := HN.out; omega), show l.length - k = 0 by have := HN.out; omega, List.replicate_zero, List.append_nil] at this
      exact this
end Go.Proofs.YtdfglpbappeoaaaGreatDoor
