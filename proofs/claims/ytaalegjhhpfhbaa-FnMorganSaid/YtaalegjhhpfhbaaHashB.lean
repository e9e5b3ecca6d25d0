/- HashBegin of both sides; the laws' helpers eqHash, markHash, heldHash. -/
import Derived.Test.YtaalegjhhpfhbaaRowV
namespace Go.Proofs.Ytaalegjhhpfhbaa
open Go.RowKit
set_option linter.unusedVariables false

def hvs (a : Option Addr) (n c : Nat) (s : ByteArray) (z : Int) : List Value := [.slice a n c, .string s, .int .i64 z]
abbrev HVal (a : Option Addr) (n c : Nat) (s : ByteArray) (z : Int) : Value := .agg (hvs a n c s z).toArray
theorem hvs_one (a : Option Addr) (n c : Nat) (s : ByteArray) (z : Int) : ∀ v ∈ hvs a n c s z, v.oneCell' = true := by
  intro v hv
  simp [hvs] at hv
  rcases hv with h | h | h <;> (rw [h]; rfl)
def iv : List Int := [1779033703, 3144134277, 1013904242, 2773480762, 1359893119, 2600822924, 528734635, 1541459225]
theorem iv_length : iv.length = 8 := rfl
theorem IAt.of_block {w : World} {g : Nat} {l : List Int} {t : TypeId} (h : w.heap[g]? = some (.cells (l.map (Value.int .i64)).toArray t (0, 0))) : IAt w (some ⟨g, 0, none⟩) l := fun _ => by
  refine ⟨g, rfl, fun k hk => ⟨?_, ?_⟩⟩
  · simp [World.cell?, h, hk]
  · simp [World.frozen?, h]
theorem size_alloc (w : World) (o : Obj) : (w.alloc o).heap.size = w.heap.size + 1 := Array.size_push _
theorem two_alloc (w : World) (A : Obj) (l : List Int) (t : TypeId) : IAt ((w.alloc A).alloc (.cells (l.map (Value.int .i64)).toArray t)) (some ⟨w.heap.size + 1, 0, none⟩) l := by
  have h := heap_alloc_new (w.alloc A) (.cells (l.map (Value.int .i64)).toArray t)
  rw [size_alloc] at h
  exact IAt.of_block h
theorem Try.infoH : (Try.prog.info? 193).map (fun i => i.zero) = some (some (.agg (hvs none 0 0 ⟨#[]⟩ 0).toArray)) := by kernel_rfl
theorem Try.undH : ∃ d, Try.prog.underlying 193 = some d ∧ d.isRow = true := ⟨_, Try.underlying193, rfl⟩
theorem Try.sizeH : (Try.prog.info? 193).map (·.size) = some 3 := by kernel_rfl

set_option maxRecDepth 100000 in
set_option maxHeartbeats 1000000 in
theorem start_any (w : World) :
    Calls Try.prog 169 #[] w fun e w' => e = .returned (.slice (some ⟨w.heap.size, 0, none⟩) 8 8) ∧ IAt w' (some ⟨w.heap.size, 0, none⟩) iv ∧ Below w.heap.size w w' ∧ w'.heap.size = w.heap.size + 1 := by
  go_enter Try.func169, Try.ntmps169
  go_wp2
  go_ret
  refine ⟨rfl, ?_, (Below.refl _ _).alloc (Nat.le_refl _) _, size_alloc _ _⟩
  exact IAt.of_block (t := 2) (heap_alloc_new w _)
set_option maxRecDepth 100000 in
set_option maxHeartbeats 1000000 in
theorem beginS_any (w : World) :
    Calls Try.prog 150 #[] w fun e w' => ∃ g, e = .returned (HVal (some ⟨g, 0, none⟩) 8 8 ⟨#[]⟩ 0) ∧ w.heap.size ≤ g ∧ g < w'.heap.size ∧ IAt w' (some ⟨g, 0, none⟩) iv ∧ Below w.heap.size w w' := by
  go_enter Try.func150, Try.ntmps150
  go_wp2_with (first
    | (with_reducible refine wpList_allocV (w := w) (by with_unfolding_all rfl) 193 (by with_unfolding_all rfl) (hvs none 0 0 ⟨#[]⟩ 0) Try.infoH ?_; intro w1 hA1 hB1 hS1)
    | (go_at_call 169; refine (start_any _).mono ?_; rintro e w2 ⟨rfl, h2, hB2, hS2⟩)
    | (with_reducible refine wpList_storeV (w := w2) (by with_unfolding_all rfl) 193 (.tmp 0) (.tmp 2) (by with_unfolding_all rfl) w.heap.size (hvs none 0 0 ⟨#[]⟩ 0) (hvs (some ⟨w.heap.size + 1, 0, none⟩) 8 8 ⟨#[]⟩ 0) (by with_unfolding_all rfl) (by with_unfolding_all rfl) (hA1.below hB2 (by omega)) 3 Try.sizeH (by with_unfolding_all rfl) (by with_unfolding_all rfl) (hvs_one _ _ _ _ _) ?_; intro w3 hA3 hB3 hF3 hS3))
  rw [hS1] at h2
  refine bodyPost_ret (results_V (t := 193) rfl _ w.heap.size _ rfl hA3 Try.undH 3 Try.sizeH rfl) rfl ⟨w.heap.size + 1, rfl, by omega, by omega, ?_, (hB1.trans (hB2.mono (by omega))).trans (hB3 _ (Nat.le_refl _))⟩
  intro hne
  obtain ⟨g, hg, hc⟩ := h2 hne
  refine ⟨g, hg, fun k hk => ?_⟩
  injection hg with hg
  injection hg with hg
  have := hF3 ⟨g, k, none⟩ (by show g ≠ w.heap.size; omega)
  exact ⟨this.1.trans (hc k hk).1, this.2.trans (hc k hk).2⟩

/- Everything that was there but the row is as it was. -/
structure WroteOld (a : Option Addr) (w w' : World) : Prop where
  far : ∀ x : Addr, x.block < w.heap.size → (∀ ad, a = some ad → x.block ≠ ad.block) → w'.cell? x = w.cell? x ∧ w'.frozen? x = w.frozen? x
  below : ∀ B, B ≤ w.heap.size → (∀ ad, a = some ad → B ≤ ad.block) → Below B w w'
  size : w.heap.size ≤ w'.heap.size
theorem WroteOld.row {a : Option Addr} {w w' : World} (h : WroteOld a w w') {g : Nat} {l : List Value} (hr : RowV w g l) (hg : g < w.heap.size) (hne : ∀ ad, a = some ad → g ≠ ad.block) : RowV w' g l :=
  hr.same fun k => h.far ⟨g, k, none⟩ hg hne
theorem WroteOld.irow {a : Option Addr} {w w' : World} (h : WroteOld a w w') {b : Option Addr} {l : List Int} (hr : IAt w b l) (hne : ∀ ad bd, a = some ad → b = some bd → bd.block ≠ ad.block) : IAt w' b l := fun hl => by
  obtain ⟨g, hg, hc⟩ := hr hl
  refine ⟨g, hg, fun k hk => ?_⟩
  have := h.far ⟨g, k, none⟩ (cellLt (hc k hk).1) (fun ad ha => hne ad ⟨g, 0, none⟩ ha hg)
  exact ⟨this.1.trans (hc k hk).1, this.2.trans (hc k hk).2⟩

/- Two variables that hold a Hash each, and their rows. -/
structure St (w : World) (b1 b2 g1 g2 : Nat) (l2 : List Int) : Prop where
  v1 : RowV w b1 (hvs (some ⟨g1, 0, none⟩) 8 8 ⟨#[]⟩ 0)
  v2 : RowV w b2 (hvs (some ⟨g2, 0, none⟩) 8 8 ⟨#[]⟩ 0)
  i1 : IAt w (some ⟨g1, 0, none⟩) iv
  i2 : IAt w (some ⟨g2, 0, none⟩) l2
theorem hvs_ne (a : Option Addr) (n c : Nat) (s : ByteArray) (z : Int) : hvs a n c s z ≠ [] := by simp [hvs]
theorem St.below {w w' : World} {b1 b2 g1 g2 : Nat} {l2 : List Int} (h : St w b1 b2 g1 g2 l2) (hb : Below w.heap.size w w') : St w' b1 b2 g1 g2 l2 :=
  ⟨h.v1.below hb (h.v1.lt (hvs_ne _ _ _ _ _)), h.v2.below hb (h.v2.lt (hvs_ne _ _ _ _ _)), h.i1.below hb, h.i2.below hb⟩
theorem St.marked {w w' : World} {b1 b2 g1 g2 : Nat} {l2 l3 : List Int} (h : St w b1 b2 g1 g2 l2) (hw : WroteOld (some ⟨g2, 0, none⟩) w w') (hi : IAt w' (some ⟨g2, 0, none⟩) l3) (n1 : b1 ≠ g2) (n2 : b2 ≠ g2) (n3 : g1 ≠ g2) : St w' b1 b2 g1 g2 l3 :=
  ⟨hw.row h.v1 (h.v1.lt (hvs_ne _ _ _ _ _)) (fun ad e => by injection e with e; subst e; exact n1), hw.row h.v2 (h.v2.lt (hvs_ne _ _ _ _ _)) (fun ad e => by injection e with e; subst e; exact n2),
    hw.irow h.i1 (fun ad bd e1 e2 => by injection e1 with e1; injection e2 with e2; subst e1; subst e2; exact n3), hi⟩
end Go.Proofs.Ytaalegjhhpfhbaa
