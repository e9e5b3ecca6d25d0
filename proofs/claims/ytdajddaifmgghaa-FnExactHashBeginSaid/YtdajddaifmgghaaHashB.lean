/- HashBegin of both sides; the laws' helpers eqHash, markHash, heldHash. -/
import Derived.Test.YtdajddaifmgghaaRowV
namespace Go.Proofs.Ytdajddaifmgghaa
open Go.RowKit
set_option linter.unusedVariables false

def hvs (a : Option Addr) (n c : Nat) (s : ByteArray) (z : Int) : List Value := [.slice a n c, .string s, .int .i64 z]
abbrev HVal (a : Option Addr) (n c : Nat) (s : ByteArray) (z : Int) : Value := .agg (hvs a n c s z).toArray
theorem hvs_one (a : Option Addr) (n c : Nat) (s : ByteArray) (z : Int) : ∀ v ∈ hvs a n c s z, v.oneCell' = true := by
  intro v hv
  simp [hvs] at hv
  rcases hv with h | h | h <;> (rw [h]; rfl)
def iv : List Int := [1779033703, 3144134277, 1013904242, 2773480762, 1359893119, 2600822924, 528734635, 1541459225]
theorem iv_length : iv.length = 8 := rfl
theorem IAt.of_block {w : World} {g : Nat} {l : List Int} {t : TypeId} (h : w.heap[g]? = some (.cells (l.map (Value.int .i64)).toArray t (0, 0))) : IAt w (some ⟨g, 0, none⟩) l := fun _ => by
  refine ⟨g, rfl, fun k hk => ⟨?_, ?_⟩⟩
  · simp [World.cell?, h, hk]
  · simp [World.frozen?, h]
theorem size_alloc (w : World) (o : Obj) : (w.alloc o).heap.size = w.heap.size + 1 := Array.size_push _
theorem two_alloc (w : World) (A : Obj) (l : List Int) (t : TypeId) : IAt ((w.alloc A).alloc (.cells (l.map (Value.int .i64)).toArray t)) (some ⟨w.heap.size + 1, 0, none⟩) l := by
  have h := heap_alloc_new (w.alloc A) (.cells (l.map (Value.int .i64)).toArray t)
  rw [size_alloc] at h
  exact IAt.of_block h
theorem Try.infoH : (Try.prog.info? 24).map (fun i => i.zero) = some (some (.agg (hvs none 0 0 ⟨#[]⟩ 0).toArray)) := by kernel_rfl
theorem Try.undH : ∃ d, Try.prog.underlying 24 = some d ∧ d.isRow = true := ⟨_, Try.underlying24, rfl⟩
theorem Try.sizeH : (Try.prog.info? 24).map (·.size) = some 3 := by kernel_rfl

set_option maxRecDepth 100000 in
set_option maxHeartbeats 1000000 in
theorem start_any (w : World) :
    Calls Try.prog 14 #[] w fun e w' => e = .returned (.slice (some ⟨w.heap.size, 0, none⟩) 8 8) ∧ IAt w' (some ⟨w.heap.size, 0, none⟩) iv ∧ Below w.heap.size w w' ∧ w'.heap.size = w.heap.size + 1 := by
  go_enter Try.func14, Try.ntmps14
  go_wp2
  go_ret
  refine ⟨rfl, ?_, (Below.refl _ _).alloc (Nat.le_refl _) _, size_alloc _ _⟩
  exact IAt.of_block (t := 2) (heap_alloc_new w _)
set_option maxRecDepth 100000 in
set_option maxHeartbeats 1000000 in
theorem beginI_any (w : World) :
    Calls Try.prog 6 #[] w fun e w' => ∃ g, e = .returned (HVal (some ⟨g, 0, none⟩) 8 8 ⟨#[]⟩ 0) ∧ w.heap.size ≤ g ∧ g < w'.heap.size ∧ IAt w' (some ⟨g, 0, none⟩) iv ∧ Below w.heap.size w w' := by
  go_enter Try.func6, Try.ntmps6
  go_wp2
  refine bodyPost_ret (v := HVal (some ⟨w.heap.size + 1, 0, none⟩) 8 8 ⟨#[]⟩ 0) (by simp [results, Try.results6, go_sem, HVal, hvs]) rfl ⟨w.heap.size + 1, rfl, by omega, by rw [size_alloc, size_alloc]; omega, ?_, ((Below.refl _ _).alloc (Nat.le_refl _) _).alloc (by rw [size_alloc]; omega) _⟩
  exact two_alloc w _ iv 2
set_option maxRecDepth 100000 in
set_option maxHeartbeats 1000000 in
theorem beginS_any (w : World) :
    Calls Try.prog 5 #[] w fun e w' => ∃ g, e = .returned (HVal (some ⟨g, 0, none⟩) 8 8 ⟨#[]⟩ 0) ∧ w.heap.size ≤ g ∧ g < w'.heap.size ∧ IAt w' (some ⟨g, 0, none⟩) iv ∧ Below w.heap.size w w' := by
  go_enter Try.func5, Try.ntmps5
  go_wp2_with (first
    | (with_reducible refine wpList_allocV (w := w) (by with_unfolding_all rfl) 24 (by with_unfolding_all rfl) (hvs none 0 0 ⟨#[]⟩ 0) Try.infoH ?_; intro w1 hA1 hB1 hS1)
    | (go_at_call 14; refine (start_any _).mono ?_; rintro e w2 ⟨rfl, h2, hB2, hS2⟩)
    | (with_reducible refine wpList_storeV (w := w2) (by with_unfolding_all rfl) 24 (.tmp 0) (.tmp 2) (by with_unfolding_all rfl) w.heap.size (hvs none 0 0 ⟨#[]⟩ 0) (hvs (some ⟨w.heap.size + 1, 0, none⟩) 8 8 ⟨#[]⟩ 0) (by with_unfolding_all rfl) (by with_unfolding_all rfl) (hA1.below hB2 (by omega)) 3 Try.sizeH (by with_unfolding_all rfl) (by with_unfolding_all rfl) (hvs_one _ _ _ _ _) ?_; intro w3 hA3 hB3 hF3 hS3))
  rw [hS1] at h2
  refine bodyPost_ret (results_V (t := 24) rfl _ w.heap.size _ rfl hA3 Try.undH 3 Try.sizeH rfl) rfl ⟨w.heap.size + 1, rfl, by omega, by omega, ?_, (hB1.trans (hB2.mono (by omega))).trans (hB3 _ (Nat.le_refl _))⟩
  intro hne
  obtain ⟨g, hg, hc⟩ := h2 hne
  refine ⟨g, hg, fun k hk => ?_⟩
  injection hg with hg
  injection hg with hg
  have := hF3 ⟨g, k, none⟩ (by show g ≠ w.heap.size; omega)
  exact ⟨this.1.trans (hc k hk).1, this.2.trans (hc k hk).2⟩

set_option maxRecDepth 100000 in
set_option maxHeartbeats 1000000 in
theorem eqH_same (a1 a2 : Option Addr) (c1 c2 n : Nat) (l : List Int) (s : ByteArray) (z : Int) (w : World) (hn : l.length = n) (h1 : IAt w a1 l) (h2 : IAt w a2 l) (hl : n ≤ 1000000000) :
    Calls Try.prog 7 #[HVal a1 n c1 s z, HVal a2 n c2 s z] w fun e w' => e = .returned (.bool true) ∧ Below w.heap.size w w' := by
  have H1 : Hid (IAt w a1 l) := h1
  have H2 : Hid (IAt w a2 l) := h2
  have HE : ∀ w0, IAt w0 a1 l → IAt w0 a2 l → Calls Try.prog 15 #[.slice a1 n c1, .slice a2 n c2] w0 fun e w' => e = .returned (.bool true) ∧ Below w0.heap.size w0 w' := fun w0 i1 i2 => by
    have := eqI_any a1 a2 c1 c2 l l w0 i1 i2 (by omega) (by omega)
    rw [hn, decide_eq_true rfl] at this
    exact this
  clear h1 h2 hn
  go_enter Try.func7, Try.ntmps7
  go_wp2_with (first
    | (with_reducible refine wpList_boxV (w := w) (by with_unfolding_all rfl) 24 (.tmp 0) (by with_unfolding_all rfl) (hvs a1 n c1 s z) (by with_unfolding_all rfl) ?_; intro w1 hA1 hB1 hS1)
    | (with_reducible refine wpList_boxV (w := w1) (by with_unfolding_all rfl) 24 (.tmp 1) (by with_unfolding_all rfl) (hvs a2 n c2 s z) (by with_unfolding_all rfl) ?_; intro w2 hA2 hB2 hS2; have p0 := (hA1.below hB2 (by omega)).cell (k := 0) rfl; have q0 := hA2.cell (k := 0) rfl; rw [hS1] at q0)
    | (go_at_call 15; refine (HE _ (H1.out.below (hB1.trans (hB2.mono (by omega)))) (H2.out.below (hB1.trans (hB2.mono (by omega))))).mono ?_; rintro e w3 ⟨rfl, hB3⟩; have p1 := ((hA1.below hB2 (by omega)).below hB3 (by omega)).cell (k := 1) rfl; have q1 := (hA2.below hB3 (by omega)).cell (k := 1) rfl; have p2 := ((hA1.below hB2 (by omega)).below hB3 (by omega)).cell (k := 2) rfl; have q2 := (hA2.below hB3 (by omega)).cell (k := 2) rfl; rw [hS1] at q1 q2))
  go_ret
  exact ⟨rfl, (hB1.trans (hB2.mono (by omega))).trans (hB3.mono (by omega))⟩

/- Everything that was there but the row is as it was. -/
structure WroteOld (a : Option Addr) (w w' : World) : Prop where
  far : ∀ x : Addr, x.block < w.heap.size → (∀ ad, a = some ad → x.block ≠ ad.block) → w'.cell? x = w.cell? x ∧ w'.frozen? x = w.frozen? x
  below : ∀ B, B ≤ w.heap.size → (∀ ad, a = some ad → B ≤ ad.block) → Below B w w'
  size : w.heap.size ≤ w'.heap.size
theorem WroteOld.row {a : Option Addr} {w w' : World} (h : WroteOld a w w') {g : Nat} {l : List Value} (hr : RowV w g l) (hg : g < w.heap.size) (hne : ∀ ad, a = some ad → g ≠ ad.block) : RowV w' g l :=
  hr.same fun k => h.far ⟨g, k, none⟩ hg hne
theorem WroteOld.irow {a : Option Addr} {w w' : World} (h : WroteOld a w w') {b : Option Addr} {l : List Int} (hr : IAt w b l) (hne : ∀ ad bd, a = some ad → b = some bd → bd.block ≠ ad.block) : IAt w' b l := fun hl => by
  obtain ⟨g, hg, hc⟩ := hr hl
  refine ⟨g, hg, fun k hk => ?_⟩
  have := h.far ⟨g, k, none⟩ (cellLt (hc k hk).1) (fun ad ha => hne ad ⟨g, 0, none⟩ ha hg)
  exact ⟨this.1.trans (hc k hk).1, this.2.trans (hc k hk).2⟩

set_option maxRecDepth 100000 in
set_option maxHeartbeats 1000000 in
theorem markH_any (a : Option Addr) (c n : Nat) (l : List Int) (s : ByteArray) (z k0 : Int) (w : World) (hn : l.length = n) (h : IAt w a l) (hl : n ≤ 1000000000) (h0 : 0 ≤ k0) (h1 : k0 ≤ 1000000000) :
    Calls Try.prog 8 #[HVal a n c s z, .int .i64 k0] w fun e w' => e = .returned (.int .i64 (k0 + n)) ∧ IAt w' a (cnt k0 n) ∧ WroteOld a w w' := by
  have H1 : Hid (IAt w a l) := h
  have HE : ∀ w0, IAt w0 a l → Calls Try.prog 16 #[.slice a n c, .int .i64 k0] w0 fun e w' => e = .returned (.int .i64 (k0 + n)) ∧ IAt w' a (cnt k0 n) ∧ Wrote a w0 w' := fun w0 i1 => by
    have := markI_any a c l k0 w0 i1 (by omega) h0 h1
    rw [hn] at this
    exact this
  clear h hn
  go_enter Try.func8, Try.ntmps8
  go_wp2_with (first
    | (with_reducible refine wpList_boxV (w := w) (by with_unfolding_all rfl) 24 (.tmp 0) (by with_unfolding_all rfl) (hvs a n c s z) (by with_unfolding_all rfl) ?_; intro w1 hA1 hB1 hS1; have p0 := hA1.cell (k := 0) rfl)
    | (go_at_call 16; refine (HE _ (H1.out.below hB1)).mono ?_; rintro e w3 ⟨rfl, hI3, hW3⟩))
  go_ret
  refine ⟨rfl, hI3, ⟨fun x hx hne => ?_, fun B hB hB2 => (hB1.mono hB).trans (hW3.below B (by omega) hB2), by rw [hW3.size]; omega⟩⟩
  have h3 := hW3.far x hne
  exact ⟨h3.1.trans (hB1.cell hx), h3.2.trans (hB1.frozen hx)⟩
set_option maxRecDepth 100000 in
set_option maxHeartbeats 1000000 in
theorem heldH_any (a : Option Addr) (c n : Nat) (s : ByteArray) (z k0 : Int) (w : World) (h : IAt w a (cnt k0 n)) (hl : n ≤ 1000000000) (h0 : 0 ≤ k0) (h1 : k0 ≤ 1000000000) :
    Calls Try.prog 9 #[HVal a n c s z, .int .i64 k0] w fun e w' => e = .returned (.int .i64 (k0 + n)) ∧ Below w.heap.size w w' := by
  have H1 : Hid (IAt w a (cnt k0 n)) := h
  clear h
  have hz0 : ¬ (k0 + (n : Int) < 0) := by omega
  obtain ⟨q, hq⟩ : ∃ q, k0 + (n : Int) = q := ⟨_, rfl⟩
  have HE : ∀ w0, IAt w0 a (cnt k0 n) → Calls Try.prog 17 #[.slice a n c, .int .i64 k0] w0 fun e w' => e = .returned (.int .i64 q) ∧ Below w0.heap.size w0 w' := fun w0 i1 => by
    have := heldI_any a c n k0 w0 i1 (by omega) h0 h1
    rw [hq] at this
    exact this
  rw [hq] at hz0 ⊢
  clear hq
  go_enter Try.func9, Try.ntmps9
  go_wp2_with (first
    | (with_reducible refine wpList_boxV (w := w) (by with_unfolding_all rfl) 24 (.tmp 0) (by with_unfolding_all rfl) (hvs a n c s z) (by with_unfolding_all rfl) ?_; intro w1 hA1 hB1 hS1; have p0 := hA1.cell (k := 0) rfl)
    | (go_at_call 17; refine (HE _ (H1.out.below hB1)).mono ?_; rintro e w3 ⟨rfl, hB3⟩))
  go_ret
  exact ⟨rfl, hB1.trans (hB3.mono (by omega))⟩
/- Two variables that hold a Hash each, and their rows. -/
structure St (w : World) (b1 b2 g1 g2 : Nat) (l2 : List Int) : Prop where
  v1 : RowV w b1 (hvs (some ⟨g1, 0, none⟩) 8 8 ⟨#[]⟩ 0)
  v2 : RowV w b2 (hvs (some ⟨g2, 0, none⟩) 8 8 ⟨#[]⟩ 0)
  i1 : IAt w (some ⟨g1, 0, none⟩) iv
  i2 : IAt w (some ⟨g2, 0, none⟩) l2
theorem hvs_ne (a : Option Addr) (n c : Nat) (s : ByteArray) (z : Int) : hvs a n c s z ≠ [] := by simp [hvs]
theorem St.below {w w' : World} {b1 b2 g1 g2 : Nat} {l2 : List Int} (h : St w b1 b2 g1 g2 l2) (hb : Below w.heap.size w w') : St w' b1 b2 g1 g2 l2 :=
  ⟨h.v1.below hb (h.v1.lt (hvs_ne _ _ _ _ _)), h.v2.below hb (h.v2.lt (hvs_ne _ _ _ _ _)), h.i1.below hb, h.i2.below hb⟩
theorem St.marked {w w' : World} {b1 b2 g1 g2 : Nat} {l2 l3 : List Int} (h : St w b1 b2 g1 g2 l2) (hw : WroteOld (some ⟨g2, 0, none⟩) w w') (hi : IAt w' (some ⟨g2, 0, none⟩) l3) (n1 : b1 ≠ g2) (n2 : b2 ≠ g2) (n3 : g1 ≠ g2) : St w' b1 b2 g1 g2 l3 :=
  ⟨hw.row h.v1 (h.v1.lt (hvs_ne _ _ _ _ _)) (fun ad e => by injection e with e; subst e; exact n1), hw.row h.v2 (h.v2.lt (hvs_ne _ _ _ _ _)) (fun ad e => by injection e with e; subst e; exact n2),
    hw.irow h.i1 (fun ad bd e1 e2 => by injection e1 with e1; injection e2 with e2; subst e1; subst e2; exact n3), hi⟩
end Go.Proofs.Ytdajddaifmgghaa
