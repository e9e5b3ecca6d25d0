/- The laws over InclusionProof and ConsistencyProof, walked out of what the program's functions answer. InclusionProof and ConsistencyProof of the program, for every argument. -/
import Derived.Test.YtdfglpbappeoaabDoorPrf
import Derived.Test.YtdfglpbappeoaabDoorJn1
import Derived.Test.YtdfglpbappeoaabDoorLaid
import Derived.Test.YtdfglpbappeoaabDoorPthI
namespace Go.Proofs.YtdfglpbappeoaabDoor
open Go.RowKit
set_option linter.unusedVariables false

/- What the program's functions answer: to be shown of the program's own text. -/
def IncPI : Prop := ∀ (a : Option Addr) (c n : Nat) (i : Int) (l : List ByteArray) (w : World), l.length = n → n ≤ c → SA w a l → n ≤ 1048576 → c ≤ 9223372036854775807 → (∀ x ∈ l, x.size ≤ maxLen) → (Lit.int .i64 i).wf = true → ArrU w 8 keys → 8 < w.heap.size →
    Calls Tryd.prog 13 #[.slice a n c, .int .i64 i] w fun e w' => ∃ v, e = .returned (.agg (pvs v (prfC l 0 i)).toArray) ∧ NewS w' w.heap.size v (incL l i) ∧ Below w.heap.size w w'
def ConPI : Prop := ∀ (a : Option Addr) (c n : Nat) (i : Int) (l : List ByteArray) (w : World), l.length = n → n ≤ c → SA w a l → n ≤ 1048576 → c ≤ 9223372036854775807 → (∀ x ∈ l, x.size ≤ maxLen) → (Lit.int .i64 i).wf = true → ArrU w 8 keys → 8 < w.heap.size →
    Calls Tryd.prog 14 #[.slice a n c, .int .i64 i] w fun e w' => ∃ v, e = .returned (.agg (pvs v (prfC l 1 i)).toArray) ∧ NewS w' w.heap.size v (conL l i) ∧ Below w.heap.size w w'
theorem incL_len (l : List ByteArray) (i : Int) : (incL l i).length ≤ 1000 := by
  unfold incL
  by_cases h : prfC l 0 i = 0
  · rw [if_pos h]
    have hl : ¬ 400 < l.length := fun hb => by rw [prfC_big hb] at h; cases h
    have := pthT_len (l := l) (by omega) i.toNat
    omega
  · rw [if_neg h]; exact Nat.zero_le _
theorem conL_len (l : List ByteArray) (i : Int) : (conL l i).length ≤ 1000 := by
  unfold conL
  by_cases h : prfC l 1 i = 0
  · rw [if_pos h]
    have hl : ¬ 400 < l.length := fun hb => by rw [prfC_big hb] at h; cases h
    by_cases hi : i < 1 ∨ (l.length : Int) + 1 ≤ i
    · unfold prfC at h
      rw [if_neg hl] at h
      by_cases ho : okLv l = false
      · rw [if_pos ho] at h; cases h
      · rw [if_neg ho, if_pos hi] at h; cases h
    · have := prT_len (l := l) (by omega) (k := i.toNat) (by omega) (by omega) true
      omega
  · rw [if_neg h]; exact Nat.zero_le _

/- A new slice of texts, with the block it lies in. -/
theorem NewS.blk {w : World} {base : Nat} {v : Value} {L : List ByteArray} (h : NewS w base v L) : ∃ a c g, v = .slice a L.length c ∧ c ≤ maxLen ∧ base ≤ g ∧ RowV w g (svl L) ∧ (L ≠ [] → a = some ⟨g, 0, none⟩ ∧ g < w.heap.size) := by
  obtain ⟨a, c, h1, h2, h3, h4⟩ := h
  by_cases hl : L = []
  · subst hl
    exact ⟨a, c, base, h1, h3, Nat.le_refl _, ⟨fun k v hv => by simp [svl] at hv, fun k hk => by simp [svl] at hk⟩, fun e => absurd rfl e⟩
  · obtain ⟨g, e1, e2, e3⟩ := h4 hl
    exact ⟨a, c, g, h1, h3, e2, e3, fun _ => ⟨e1, e3.lt (svl_ne hl)⟩⟩
theorem sa_blk {w : World} {g : Nat} {a : Option Addr} {L : List ByteArray} (h : RowV w g (svl L)) (ha : L ≠ [] → a = some ⟨g, 0, none⟩) : SA w a L := by
  by_cases hl : L = []
  · subst hl; exact SA.nil _ _
  · rw [ha hl]; exact h.sa
theorem row_keep {w w' : World} {g : Nat} {L : List ByteArray} (h : RowV w g (svl L)) (hg : L ≠ [] → g < w.heap.size) (hb : Below w.heap.size w w') : RowV w' g (svl L) := by
  by_cases hl : L = []
  · subst hl; exact ⟨fun k v hv => by simp [svl] at hv, fun k hk => by simp [svl] at hk⟩
  · exact h.below hb (hg hl)
theorem But.keep {w w' : World} {g j : Nat} {L : List ByteArray} (hb : But g w w') (h : RowV w j (svl L)) (hg : L ≠ [] → j ≠ g ∧ j < w.heap.size) : RowV w' j (svl L) := by
  by_cases hl : L = []
  · subst hl; exact ⟨fun k v hv => by simp [svl] at hv, fun k hk => by simp [svl] at hk⟩
  · exact hb.row h (hg hl).1 (hg hl).2
/- What lies where while the law runs. -/
structure SP (w0 : World) (B6 : Nat) (v6 : Value) (B8 : Nat) (v8 : Value) (z : Int) (gx g1 g2 : Nat) (L lx L2 : List ByteArray) (W : World) : Prop where
  r6 : RowV W B6 (pvl v6 z)
  r8 : RowV W B8 (pvl v8 z)
  r1 : RowV W g1 (svl L)
  rx : RowV W gx (svl lx)
  r2 : RowV W g2 (svl L2)
  l6 : B6 < W.heap.size
  l8 : B8 < W.heap.size
  lx' : gx < W.heap.size
  l1 : L ≠ [] → g1 < W.heap.size
  l2 : L2 ≠ [] → g2 < W.heap.size
  below : Below w0.heap.size w0 W
theorem SP.step {w0 : World} {B6 : Nat} {v6 : Value} {B8 : Nat} {v8 : Value} {z : Int} {gx g1 g2 : Nat} {L lx L2 : List ByteArray} {W W' : World} (h : Hid (SP w0 B6 v6 B8 v8 z gx g1 g2 L lx L2 W)) (b : Below W.heap.size W W') : Hid (SP w0 B6 v6 B8 v8 z gx g1 g2 L lx L2 W') :=
  ⟨h.out.r6.below b h.out.l6, h.out.r8.below b h.out.l8, row_keep h.out.r1 h.out.l1 b, h.out.rx.below b h.out.lx', row_keep h.out.r2 h.out.l2 b, Nat.lt_of_lt_of_le h.out.l6 b.size, Nat.lt_of_lt_of_le h.out.l8 b.size, Nat.lt_of_lt_of_le h.out.lx' b.size, fun e => Nat.lt_of_lt_of_le (h.out.l1 e) b.size, fun e => Nat.lt_of_lt_of_le (h.out.l2 e) b.size, h.out.below.trans (b.mono h.out.below.size)⟩
theorem SP.cells {w0 : World} {B6 : Nat} {v6 : Value} {B8 : Nat} {v8 : Value} {z : Int} {gx g1 g2 : Nat} {L lx L2 : List ByteArray} {W : World} (h : Hid (SP w0 B6 v6 B8 v8 z gx g1 g2 L lx L2 W)) :
    (W.cell? ⟨B6, 0, none⟩ = some v6 ∧ W.cell? ⟨B6, 1, none⟩ = some (.int .i64 z)) ∧ (W.cell? ⟨B8, 0, none⟩ = some v8 ∧ W.cell? ⟨B8, 1, none⟩ = some (.int .i64 z)) := ⟨h.out.r6.pvl, h.out.r8.pvl⟩
/- Blocks that are not the same. -/
structure SepP (w0 : World) (B6 B8 gx g1 g2 : Nat) (L : List ByteArray) : Prop where
  x6 : B6 ≠ gx
  x8 : B8 ≠ gx
  x1 : L ≠ [] → g1 ≠ gx
  x2 : L ≠ [] → g2 ≠ gx
  y6 : L ≠ [] → B6 ≠ g2
  y8 : L ≠ [] → B8 ≠ g2
  y1 : L ≠ [] → g1 ≠ g2
  yx : L ≠ [] → gx ≠ g2
  bx : w0.heap.size ≤ gx
  b2 : L ≠ [] → w0.heap.size ≤ g2
theorem SP.markX {w0 : World} {B6 : Nat} {v6 : Value} {B8 : Nat} {v8 : Value} {z : Int} {gx g1 g2 : Nat} {L lx lx2 : List ByteArray} {W W' : World} (S : SepP w0 B6 B8 gx g1 g2 L) (h : Hid (SP w0 B6 v6 B8 v8 z gx g1 g2 L lx L W)) (r : RowV W' gx (svl lx2)) (b : But gx W W') : Hid (SP w0 B6 v6 B8 v8 z gx g1 g2 L lx2 L W') :=
  ⟨b.row h.out.r6 S.x6 h.out.l6, b.row h.out.r8 S.x8 h.out.l8, b.keep h.out.r1 (fun e => ⟨S.x1 e, h.out.l1 e⟩), r, b.keep h.out.r2 (fun e => ⟨S.x2 e, h.out.l2 e⟩), Nat.lt_of_lt_of_le h.out.l6 b.size, Nat.lt_of_lt_of_le h.out.l8 b.size, Nat.lt_of_lt_of_le h.out.lx' b.size, fun e => Nat.lt_of_lt_of_le (h.out.l1 e) b.size, fun e => Nat.lt_of_lt_of_le (h.out.l2 e) b.size, h.out.below.trans (b.below S.bx h.out.below.size)⟩
theorem SP.mark2 {w0 : World} {B6 : Nat} {v6 : Value} {B8 : Nat} {v8 : Value} {z : Int} {gx g1 g2 : Nat} {L lx L2 : List ByteArray} {W W' : World} (S : SepP w0 B6 B8 gx g1 g2 L) (h : Hid (SP w0 B6 v6 B8 v8 z gx g1 g2 L lx L W)) (hl : L ≠ []) (r : RowV W' g2 (svl L2)) (b : But g2 W W') : Hid (SP w0 B6 v6 B8 v8 z gx g1 g2 L lx L2 W') :=
  ⟨b.row h.out.r6 (S.y6 hl) h.out.l6, b.row h.out.r8 (S.y8 hl) h.out.l8, b.keep h.out.r1 (fun e => ⟨S.y1 e, h.out.l1 e⟩), b.row h.out.rx (S.yx hl) h.out.lx', r, Nat.lt_of_lt_of_le h.out.l6 b.size, Nat.lt_of_lt_of_le h.out.l8 b.size, Nat.lt_of_lt_of_le h.out.lx' b.size, fun e => Nat.lt_of_lt_of_le (h.out.l1 e) b.size, fun _ => Nat.lt_of_lt_of_le (h.out.l2 hl) b.size, h.out.below.trans (b.below (S.b2 hl) h.out.below.size)⟩
theorem SP.start {w w2 w4 w5 w6 w8 : World} {g1 g2 : Nat} {v6 v8 : Value} {z : Int} {L l : List ByteArray} (b02 : Below w.heap.size w w2) (b24 : Below w2.heap.size w2 w4) (b45 : Below w4.heap.size w4 w5) (b56 : Below w5.heap.size w5 w6) (b68 : Below w6.heap.size w6 w8) (e24 : w2.heap.size < w4.heap.size) (e45 : w4.heap.size < w5.heap.size) (e68 : w6.heap.size < w8.heap.size)
    (r6 : RowV w4 w2.heap.size (pvl v6 z)) (r1 : RowV w2 g1 (svl L)) (l1 : L ≠ [] → g1 < w2.heap.size) (rx : RowV w5 w4.heap.size (svl l)) (r2 : RowV w6 g2 (svl L)) (l2 : L ≠ [] → g2 < w6.heap.size) (r8 : RowV w8 w6.heap.size (pvl v8 z)) : Hid (SP w w2.heap.size v6 w6.heap.size v8 z w4.heap.size g1 g2 L l L w8) := by
  have z2 := b02.size
  have z4 := b24.size
  have z5 := b45.size
  have z6 := b56.size
  have z8 := b68.size
  have b48 : Below w4.heap.size w4 w8 := (b45.trans (b56.mono z5)).trans (b68.mono (by omega))
  have b58 : Below w5.heap.size w5 w8 := b56.trans (b68.mono z6)
  have b28 : Below w2.heap.size w2 w8 := b24.trans (b48.mono z4)
  exact ⟨r6.below b48 e24, r8, row_keep r1 l1 b28, rx.below b58 e45, row_keep r2 l2 b68, by omega, e68, by omega, fun e => by have := l1 e; omega, fun e => by have := l2 e; omega, b02.trans (b28.mono z2)⟩
theorem SepP.hid {w : World} {B6 B8 gx g1 g2 : Nat} {L : List ByteArray} (h : SepP w B6 B8 gx g1 g2 L) : Hid (SepP w B6 B8 gx g1 g2 L) := h
theorem hid_of {p : Prop} (h : p) : Hid p := h
theorem newP (w : World) (v : Value) (z : Int) : ∃ w', w.alloc (.cells #[v, .int .i64 z] 29) = w' ∧ RowV w' w.heap.size (pvl v z) ∧ Below w.heap.size w w' ∧ w.heap.size < w'.heap.size :=
  ⟨_, rfl, RowV.new w (pvl v z) _, (Below.refl _ _).alloc (Nat.le_refl _) _, by rw [show (w.alloc (.cells #[v, .int .i64 z] 29)).heap.size = w.heap.size + 1 from Array.size_push _]; omega⟩
theorem SepP.start {w w1 w2 w4 w5 w6 : World} {g1 g2 : Nat} {L : List ByteArray} (z1 : w.heap.size ≤ w1.heap.size) (z2 : w1.heap.size ≤ w2.heap.size) (e24 : w2.heap.size < w4.heap.size) (e45 : w4.heap.size < w5.heap.size) (z6 : w5.heap.size ≤ w6.heap.size) (l1 : L ≠ [] → g1 < w2.heap.size) (n2 : w5.heap.size ≤ g2) (l2 : L ≠ [] → g2 < w6.heap.size) : SepP w w2.heap.size w6.heap.size w4.heap.size g1 g2 L :=
  ⟨by omega, by omega, fun e => by have := l1 e; omega, fun e => by omega, fun e => by omega, fun e => by have := l2 e; omega, fun e => by have := l1 e; omega, fun e => by omega, by omega, fun e => by omega⟩
end Go.Proofs.YtdfglpbappeoaabDoor
namespace Go.Proofs.YtdfglpbappeoaabDoor
open Go.RowKit
set_option linter.unusedVariables false

theorem store_func {P : Program} (w : World) (a : Addr) (m : Mode) (f : Fn) (x y : Array Value) : Sem.run P (store a (.func f x y) m) w = stored P w a (.func f x y) m := by
  rw [run_store P w a _ m rfl]
  rfl
theorem fun_cell (w : World) (v : Value) (t : TypeId) : (w.alloc (.cells #[v] t)).cell? ⟨w.heap.size, 0, none⟩ = some v := by simp
theorem fun_below (w : World) (v : Value) (t : TypeId) : Below w.heap.size w (w.alloc (.cells #[v] t)) := (Below.refl _ _).alloc (Nat.le_refl _) _
theorem prfC_lv {l : List ByteArray} {lo i : Int} (h : lvC l ≠ 0) : prfC l lo i = lvC l := by
  unfold prfC lvC at *
  by_cases h1 : 400 < l.length
  · rw [if_pos h1, if_pos h1]
  · rw [if_neg h1] at h
    rw [if_neg h1, if_neg h1]
    by_cases h2 : okLv l = false
    · rw [if_pos h2, if_pos h2]
    · rw [if_neg h2] at h
      exact absurd rfl h
theorem lvC_ok {l : List ByteArray} (h : lvC l = 0) : ¬ 400 < l.length ∧ okLv l = true := by
  unfold lvC at h
  by_cases h1 : 400 < l.length
  · rw [if_pos h1] at h; cases h
  · rw [if_neg h1] at h
    by_cases h2 : okLv l = false
    · rw [if_pos h2] at h; cases h
    · exact ⟨h1, by simpa using h2⟩
set_option maxRecDepth 100000 in
set_option maxHeartbeats 1000000 in
theorem ownPath (a : Option Addr) (c n i : Nat) (l : List ByteArray) (w : World) (hn : l.length = n) (hn1 : 1 ≤ n) (hin : i < n) (hc : n ≤ c) (hA : SA w a l) (hM : n ≤ 1000) (hcM : c ≤ 9223372036854775807) (hx : ∀ x ∈ l, x.size < 20000) (hk : ArrU w 8 keys) (h0 : 8 < w.heap.size) :
    Calls Tryd.prog 42 #[.slice a n c, .int .i64 (i : Int)] w fun e w' => ∃ v, e = .returned v ∧ w'.ownsRow w.heap.size 9 1 v (pthT l i).length (svl (pthT l i)) ∧ Below w.heap.size w w' := by
  have hmf : ∀ (fn : Fn) (first cap : Array Value) (w : World), (Instr.makeFunc fn first cap).run Tryd.prog w = .ok (.func fn first cap) w := fun _ _ _ _ => rfl
  have HP : Hid (∀ w0, Below w.heap.size w w0 → w0.cell? ⟨w.heap.size, 0, none⟩ = some (.func (.func 98) #[] #[.pointer (some ⟨w.heap.size, 0, none⟩)]) → Calls Tryd.prog 98 #[.slice a n c, .int .i64 (i : Int), .pointer (some ⟨w.heap.size, 0, none⟩)] w0 fun e w' => ∃ v, e = .returned v ∧ w'.ownsRow w0.heap.size 9 1 v (pthT l i).length (svl (pthT l i)) ∧ Below w0.heap.size w0 w') := fun w0 hb hcl =>
    pathI n a c n i l w0 w.heap.size (by omega) hn hn1 hin hc (hA.below hb) hM hcM hx (hk.below hb h0) (Nat.lt_of_lt_of_le h0 hb.size) hcl
  have hsf : ∀ (w : World) (a : Addr) (m : Mode) (f : Fn) (x y : Array Value), Sem.run Tryd.prog (store a (.func f x y) m) w = stored Tryd.prog w a (.func f x y) m := store_func
  generalize pthT l i = P at *
  clear hA hx hk
  go_enter Tryd.func42, Tryd.ntmps42
  go_wp2_with fail
  refine (HP.out _ (fun_below w _ _) (fun_cell w _ _)).mono ?_
  rintro e w1 ⟨v, rfl, hO, hB⟩
  have HO : Hid (w1.ownsRow w.heap.size 9 1 v P.length (svl P)) := own_from hO (fun_below w _ _).size
  have HB : Hid (Below w.heap.size w w1) := (fun_below w _ _).trans (hB.mono (fun_below w _ _).size)
  clear hO hB HP
  go_wp2
  go_ret
  exact ⟨v, rfl, HO.out, HB.out⟩
set_option maxRecDepth 100000 in
set_option maxHeartbeats 1000000 in
theorem ownProof (a : Option Addr) (c n i : Nat) (l : List ByteArray) (w : World) (hn : l.length = n) (hi1 : 1 ≤ i) (hin : i ≤ n) (hc : n ≤ c) (hA : SA w a l) (hM : n ≤ 1000) (hcM : c ≤ 9223372036854775807) (hx : ∀ x ∈ l, x.size < 20000) (hk : ArrU w 8 keys) (h0 : 8 < w.heap.size) :
    Calls Tryd.prog 43 #[.slice a n c, .int .i64 (i : Int)] w fun e w' => ∃ v, e = .returned v ∧ w'.ownsRow w.heap.size 9 1 v (prT l i true).length (svl (prT l i true)) ∧ Below w.heap.size w w' := by
  have hmf : ∀ (fn : Fn) (first cap : Array Value) (w : World), (Instr.makeFunc fn first cap).run Tryd.prog w = .ok (.func fn first cap) w := fun _ _ _ _ => rfl
  have HP : Hid (∀ w0, Below w.heap.size w w0 → w0.cell? ⟨w.heap.size, 0, none⟩ = some (.func (.func 99) #[] #[.pointer (some ⟨w.heap.size, 0, none⟩)]) → Calls Tryd.prog 99 #[.slice a n c, .int .i64 (i : Int), .bool true, .pointer (some ⟨w.heap.size, 0, none⟩)] w0 fun e w' => ∃ v, e = .returned v ∧ w'.ownsRow w0.heap.size 9 1 v (prT l i true).length (svl (prT l i true)) ∧ Below w0.heap.size w0 w') := fun w0 hb hcl =>
    proofI n a c n i true l w0 w.heap.size (by omega) hn hi1 hin hc (hA.below hb) hM hcM hx (hk.below hb h0) (Nat.lt_of_lt_of_le h0 hb.size) hcl
  have hsf : ∀ (w : World) (a : Addr) (m : Mode) (f : Fn) (x y : Array Value), Sem.run Tryd.prog (store a (.func f x y) m) w = stored Tryd.prog w a (.func f x y) m := store_func
  generalize prT l i true = P at *
  clear hA hx hk
  go_enter Tryd.func43, Tryd.ntmps43
  go_wp2_with fail
  refine (HP.out _ (fun_below w _ _) (fun_cell w _ _)).mono ?_
  rintro e w1 ⟨v, rfl, hO, hB⟩
  have HO : Hid (w1.ownsRow w.heap.size 9 1 v P.length (svl P)) := own_from hO (fun_below w _ _).size
  have HB : Hid (Below w.heap.size w w1) := (fun_below w _ _).trans (hB.mono (fun_below w _ _).size)
  clear hO hB HP
  go_wp2
  go_ret
  exact ⟨v, rfl, HO.out, HB.out⟩
set_option maxRecDepth 100000 in
set_option maxHeartbeats 1000000 in
theorem incPI : IncPI := by
  intro a c n i l w hn hc h hM hcM hx wi hk h0
  have hC : ∀ w0, Hid (SA w0 a l) → Calls Tryd.prog 41 #[.slice a n c] w0 fun e w' => e = .returned (.int .i64 (lvC l)) ∧ w0 = w' := fun w0 h0 => codeLI a c n l w0 hn h0.out (by omega) hx
  have HA : Hid (SA w a l) := h
  by_cases hz : lvC l = 0
  case neg =>
    have hcd : prfC l 0 i = lvC l := prfC_lv hz
    have HL : Hid (incL l i = []) := by show _ = _; unfold incL; rw [hcd, if_neg hz]
    rw [hcd]
    have t1 : (lvC l != 0) = true := by simpa using hz
    clear hcd hz
    generalize lvC l = z at *
    clear h hx hk
    go_enter Tryd.func13, Tryd.ntmps13
    go_wp2_with (first
          | (with_reducible refine wpList_allocV (w := w) (by with_unfolding_all rfl) 29 (by with_unfolding_all rfl) (pvs (.slice none 0 0) 0) Tryd.infoP ?_; intro w1 hA1 hB1 hS1)
          | (go_at_call 41; refine (hC _ (HA.out.below hB1)).mono ?_; rintro e w' ⟨rfl, rfl⟩)
          | (with_reducible refine wpList_storeV (w := w1) (by with_unfolding_all rfl) 29 (.tmp 4) (.tmp 11) (by with_unfolding_all rfl) w.heap.size (pvs (.slice none 0 0) 0) (pvs (.slice none 0 0) z) (by with_unfolding_all rfl) (by with_unfolding_all rfl) hA1 2 Tryd.sizeP (by with_unfolding_all rfl) (by with_unfolding_all rfl) (pvs_one _ _ _ _) ?_; intro w5 hA5 hB5 hF5 hS5))
    refine bodyPost_ret (results_V (t := 29) rfl _ w.heap.size _ rfl hA5 Tryd.undP 2 Tryd.sizeP rfl) rfl ⟨_, rfl, ?_, hB1.trans (hB5 _ (Nat.le_refl _))⟩
    rw [HL.out]
    exact NewS.nil _ _
  obtain ⟨hn4, ho⟩ := lvC_ok hz
  rw [hz] at hC
  have ho' := okLv_of ho
  by_cases hi : i < 0
  · have e1 : decide (i < 0) = true := decide_eq_true hi
    have hcd : prfC l 0 i = 9 := prfC_none (by omega) ho (by omega)
    have HL : Hid (incL l i = []) := by show _ = _; unfold incL; rw [hcd, if_neg (by decide)]
    rw [hcd]
    clear hcd ho ho' hz
    clear h hx hk
    go_enter Tryd.func13, Tryd.ntmps13
    go_wp2_with (first
          | (with_reducible refine wpList_allocV (w := w) (by with_unfolding_all rfl) 29 (by with_unfolding_all rfl) (pvs (.slice none 0 0) 0) Tryd.infoP ?_; intro w1 hA1 hB1 hS1)
          | (go_at_call 41; refine (hC _ (HA.out.below hB1)).mono ?_; rintro e w' ⟨rfl, rfl⟩)
          | (with_reducible refine wpList_storeV (w := w1) (by with_unfolding_all rfl) 29 (.tmp 4) (.tmp 20) (by with_unfolding_all rfl) w.heap.size (pvs (.slice none 0 0) 0) (pvs (.slice none 0 0) 9) (by with_unfolding_all rfl) (by with_unfolding_all rfl) hA1 2 Tryd.sizeP (by with_unfolding_all rfl) (by with_unfolding_all rfl) (pvs_one _ _ _ _) ?_; intro w5 hA5 hB5 hF5 hS5))
    refine bodyPost_ret (results_V (t := 29) rfl _ w.heap.size _ rfl hA5 Tryd.undP 2 Tryd.sizeP rfl) rfl ⟨_, rfl, ?_, hB1.trans (hB5 _ (Nat.le_refl _))⟩
    rw [HL.out]
    exact NewS.nil _ _
  have e1 : decide (i < 0) = false := decide_eq_false hi
  by_cases hi2 : (n : Int) ≤ i
  · have e2 : decide ((n : Int) ≤ i) = true := decide_eq_true hi2
    have hcd : prfC l 0 i = 9 := prfC_none (by omega) ho (by omega)
    have HL : Hid (incL l i = []) := by show _ = _; unfold incL; rw [hcd, if_neg (by decide)]
    rw [hcd]
    clear hcd ho ho' hz
    clear h hx hk
    go_enter Tryd.func13, Tryd.ntmps13
    go_wp2_with (first
          | (with_reducible refine wpList_allocV (w := w) (by with_unfolding_all rfl) 29 (by with_unfolding_all rfl) (pvs (.slice none 0 0) 0) Tryd.infoP ?_; intro w1 hA1 hB1 hS1)
          | (go_at_call 41; refine (hC _ (HA.out.below hB1)).mono ?_; rintro e w' ⟨rfl, rfl⟩)
          | (with_reducible refine wpList_storeV (w := w1) (by with_unfolding_all rfl) 29 (.tmp 4) (.tmp 20) (by with_unfolding_all rfl) w.heap.size (pvs (.slice none 0 0) 0) (pvs (.slice none 0 0) 9) (by with_unfolding_all rfl) (by with_unfolding_all rfl) hA1 2 Tryd.sizeP (by with_unfolding_all rfl) (by with_unfolding_all rfl) (pvs_one _ _ _ _) ?_; intro w5 hA5 hB5 hF5 hS5))
    refine bodyPost_ret (results_V (t := 29) rfl _ w.heap.size _ rfl hA5 Tryd.undP 2 Tryd.sizeP rfl) rfl ⟨_, rfl, ?_, hB1.trans (hB5 _ (Nat.le_refl _))⟩
    rw [HL.out]
    exact NewS.nil _ _
  have e2 : decide ((n : Int) ≤ i) = false := decide_eq_false hi2
  have hcd : prfC l 0 i = 0 := prfC_ok (by omega) ho (by omega)
  obtain ⟨k, rfl⟩ := Int.eq_ofNat_of_zero_le (show 0 ≤ i by omega)
  have e3 : decide (n ≤ k) = false := decide_eq_false (by omega)
  have hL : incL l k = pthT l k := by unfold incL; rw [hcd, if_pos rfl]; rfl
  rw [hcd, hL]
  have hP : ∀ w0, Hid (SA w0 a l) → Hid (ArrU w0 8 keys) → 8 < w0.heap.size → Calls Tryd.prog 42 #[.slice a n c, .int .i64 (k : Int)] w0 fun e w' => ∃ v, e = .returned v ∧ w'.ownsRow w0.heap.size 9 1 v (pthT l k).length (svl (pthT l k)) ∧ Below w0.heap.size w0 w' := fun w0 h0 k1 k2 => ownPath a c n k l w0 hn (by omega) (by omega) hc h0.out (by have := ho'.1; omega) hcM ho'.2 k1.out k2
  have HK : Hid (ArrU w 8 keys) := hk
  generalize pthT l k = P at *
  clear h hx hcd ho ho' hL hz hk
  go_enter Tryd.func13, Tryd.ntmps13
  go_wp2_with (first
      | (with_reducible refine wpList_allocV (w := w) (by with_unfolding_all rfl) 29 (by with_unfolding_all rfl) (pvs (.slice none 0 0) 0) Tryd.infoP ?_; intro w1 hA1 hB1 hS1)
      | (go_at_call 41; refine (hC _ (HA.out.below hB1)).mono ?_; rintro e w' ⟨rfl, rfl⟩)
      | (go_at_call 42; refine (hP _ (HA.out.below hB1) (HK.out.below hB1 h0) (by omega)).mono ?_; rintro e w2 ⟨v2, rfl, hO2, hB2⟩; obtain ⟨a2, c2, rfl, hl2, hc2, hm2, hsa2⟩ := own_sa hO2; have V2 := hA1.below hB2 (by omega))
      | (with_reducible refine wpList_storeV (w := w2) (by with_unfolding_all rfl) 29 (.tmp 4) (.tmp 24) (by with_unfolding_all rfl) w.heap.size (pvs (.slice none 0 0) 0) (pvs (.slice a2 P.length c2) 0) (by with_unfolding_all rfl) (by with_unfolding_all rfl) V2 2 Tryd.sizeP (by with_unfolding_all rfl) (by with_unfolding_all rfl) (pvs_one _ _ _ _) ?_; intro w5 hA5 hB5 hF5 hS5))
  have hO1 : NewS w2 (w.heap.size + 1) (.slice a2 P.length c2) P := by rw [← hS1]; exact NewS.of_own hO2
  refine bodyPost_ret (results_V (t := 29) rfl _ w.heap.size _ rfl hA5 Tryd.undP 2 Tryd.sizeP rfl) rfl ⟨_, rfl, ?_, (hB1.trans (hB2.mono (by omega))).trans (hB5 _ (Nat.le_refl _))⟩
  exact hO1.far hF5
set_option maxRecDepth 100000 in
set_option maxHeartbeats 1000000 in
theorem conPI : ConPI := by
  intro a c n i l w hn hc h hM hcM hx wi hk h0
  have hC : ∀ w0, Hid (SA w0 a l) → Calls Tryd.prog 41 #[.slice a n c] w0 fun e w' => e = .returned (.int .i64 (lvC l)) ∧ w0 = w' := fun w0 h0 => codeLI a c n l w0 hn h0.out (by omega) hx
  have HA : Hid (SA w a l) := h
  by_cases hz : lvC l = 0
  case neg =>
    have hcd : prfC l 1 i = lvC l := prfC_lv hz
    have HL : Hid (conL l i = []) := by show _ = _; unfold conL; rw [hcd, if_neg hz]
    rw [hcd]
    have t1 : (lvC l != 0) = true := by simpa using hz
    clear hcd hz
    generalize lvC l = z at *
    clear h hx hk
    go_enter Tryd.func14, Tryd.ntmps14
    go_wp2_with (first
          | (with_reducible refine wpList_allocV (w := w) (by with_unfolding_all rfl) 29 (by with_unfolding_all rfl) (pvs (.slice none 0 0) 0) Tryd.infoP ?_; intro w1 hA1 hB1 hS1)
          | (go_at_call 41; refine (hC _ (HA.out.below hB1)).mono ?_; rintro e w' ⟨rfl, rfl⟩)
          | (with_reducible refine wpList_storeV (w := w1) (by with_unfolding_all rfl) 29 (.tmp 4) (.tmp 11) (by with_unfolding_all rfl) w.heap.size (pvs (.slice none 0 0) 0) (pvs (.slice none 0 0) z) (by with_unfolding_all rfl) (by with_unfolding_all rfl) hA1 2 Tryd.sizeP (by with_unfolding_all rfl) (by with_unfolding_all rfl) (pvs_one _ _ _ _) ?_; intro w5 hA5 hB5 hF5 hS5))
    refine bodyPost_ret (results_V (t := 29) rfl _ w.heap.size _ rfl hA5 Tryd.undP 2 Tryd.sizeP rfl) rfl ⟨_, rfl, ?_, hB1.trans (hB5 _ (Nat.le_refl _))⟩
    rw [HL.out]
    exact NewS.nil _ _
  obtain ⟨hn4, ho⟩ := lvC_ok hz
  rw [hz] at hC
  have ho' := okLv_of ho
  by_cases hi : i < 1
  · have e1 : decide (i < 1) = true := decide_eq_true hi
    have hcd : prfC l 1 i = 9 := prfC_none (by omega) ho (by omega)
    have HL : Hid (conL l i = []) := by show _ = _; unfold conL; rw [hcd, if_neg (by decide)]
    rw [hcd]
    clear hcd ho ho' hz
    clear h hx hk
    go_enter Tryd.func14, Tryd.ntmps14
    go_wp2_with (first
          | (with_reducible refine wpList_allocV (w := w) (by with_unfolding_all rfl) 29 (by with_unfolding_all rfl) (pvs (.slice none 0 0) 0) Tryd.infoP ?_; intro w1 hA1 hB1 hS1)
          | (go_at_call 41; refine (hC _ (HA.out.below hB1)).mono ?_; rintro e w' ⟨rfl, rfl⟩)
          | (with_reducible refine wpList_storeV (w := w1) (by with_unfolding_all rfl) 29 (.tmp 4) (.tmp 20) (by with_unfolding_all rfl) w.heap.size (pvs (.slice none 0 0) 0) (pvs (.slice none 0 0) 9) (by with_unfolding_all rfl) (by with_unfolding_all rfl) hA1 2 Tryd.sizeP (by with_unfolding_all rfl) (by with_unfolding_all rfl) (pvs_one _ _ _ _) ?_; intro w5 hA5 hB5 hF5 hS5))
    refine bodyPost_ret (results_V (t := 29) rfl _ w.heap.size _ rfl hA5 Tryd.undP 2 Tryd.sizeP rfl) rfl ⟨_, rfl, ?_, hB1.trans (hB5 _ (Nat.le_refl _))⟩
    rw [HL.out]
    exact NewS.nil _ _
  have e1 : decide (i < 1) = false := decide_eq_false hi
  by_cases hi2 : (n : Int) < i
  · have e2 : decide ((n : Int) < i) = true := decide_eq_true hi2
    have hcd : prfC l 1 i = 9 := prfC_none (by omega) ho (by omega)
    have HL : Hid (conL l i = []) := by show _ = _; unfold conL; rw [hcd, if_neg (by decide)]
    rw [hcd]
    clear hcd ho ho' hz
    clear h hx hk
    go_enter Tryd.func14, Tryd.ntmps14
    go_wp2_with (first
          | (with_reducible refine wpList_allocV (w := w) (by with_unfolding_all rfl) 29 (by with_unfolding_all rfl) (pvs (.slice none 0 0) 0) Tryd.infoP ?_; intro w1 hA1 hB1 hS1)
          | (go_at_call 41; refine (hC _ (HA.out.below hB1)).mono ?_; rintro e w' ⟨rfl, rfl⟩)
          | (with_reducible refine wpList_storeV (w := w1) (by with_unfolding_all rfl) 29 (.tmp 4) (.tmp 20) (by with_unfolding_all rfl) w.heap.size (pvs (.slice none 0 0) 0) (pvs (.slice none 0 0) 9) (by with_unfolding_all rfl) (by with_unfolding_all rfl) hA1 2 Tryd.sizeP (by with_unfolding_all rfl) (by with_unfolding_all rfl) (pvs_one _ _ _ _) ?_; intro w5 hA5 hB5 hF5 hS5))
    refine bodyPost_ret (results_V (t := 29) rfl _ w.heap.size _ rfl hA5 Tryd.undP 2 Tryd.sizeP rfl) rfl ⟨_, rfl, ?_, hB1.trans (hB5 _ (Nat.le_refl _))⟩
    rw [HL.out]
    exact NewS.nil _ _
  have e2 : decide ((n : Int) < i) = false := decide_eq_false hi2
  have hcd : prfC l 1 i = 0 := prfC_ok (by omega) ho (by omega)
  obtain ⟨k, rfl⟩ := Int.eq_ofNat_of_zero_le (show 0 ≤ i by omega)
  have e3 : decide (n < k) = false := decide_eq_false (by omega)
  have hL : conL l k = prT l k true := by unfold conL; rw [hcd, if_pos rfl]; rfl
  rw [hcd, hL]
  have hP : ∀ w0, Hid (SA w0 a l) → Hid (ArrU w0 8 keys) → 8 < w0.heap.size → Calls Tryd.prog 43 #[.slice a n c, .int .i64 (k : Int)] w0 fun e w' => ∃ v, e = .returned v ∧ w'.ownsRow w0.heap.size 9 1 v (prT l k true).length (svl (prT l k true)) ∧ Below w0.heap.size w0 w' := fun w0 h0 k1 k2 => ownProof a c n k l w0 hn (by omega) (by omega) hc h0.out (by have := ho'.1; omega) hcM ho'.2 k1.out k2
  have HK : Hid (ArrU w 8 keys) := hk
  generalize prT l k true = P at *
  clear h hx hcd ho ho' hL hz hk
  go_enter Tryd.func14, Tryd.ntmps14
  go_wp2_with (first
      | (with_reducible refine wpList_allocV (w := w) (by with_unfolding_all rfl) 29 (by with_unfolding_all rfl) (pvs (.slice none 0 0) 0) Tryd.infoP ?_; intro w1 hA1 hB1 hS1)
      | (go_at_call 41; refine (hC _ (HA.out.below hB1)).mono ?_; rintro e w' ⟨rfl, rfl⟩)
      | (go_at_call 43; refine (hP _ (HA.out.below hB1) (HK.out.below hB1 h0) (by omega)).mono ?_; rintro e w2 ⟨v2, rfl, hO2, hB2⟩; obtain ⟨a2, c2, rfl, hl2, hc2, hm2, hsa2⟩ := own_sa hO2; have V2 := hA1.below hB2 (by omega))
      | (with_reducible refine wpList_storeV (w := w2) (by with_unfolding_all rfl) 29 (.tmp 4) (.tmp 24) (by with_unfolding_all rfl) w.heap.size (pvs (.slice none 0 0) 0) (pvs (.slice a2 P.length c2) 0) (by with_unfolding_all rfl) (by with_unfolding_all rfl) V2 2 Tryd.sizeP (by with_unfolding_all rfl) (by with_unfolding_all rfl) (pvs_one _ _ _ _) ?_; intro w5 hA5 hB5 hF5 hS5))
  have hO1 : NewS w2 (w.heap.size + 1) (.slice a2 P.length c2) P := by rw [← hS1]; exact NewS.of_own hO2
  refine bodyPost_ret (results_V (t := 29) rfl _ w.heap.size _ rfl hA5 Tryd.undP 2 Tryd.sizeP rfl) rfl ⟨_, rfl, ?_, (hB1.trans (hB2.mono (by omega))).trans (hB5 _ (Nat.le_refl _))⟩
  exact hO1.far hF5
end Go.Proofs.YtdfglpbappeoaabDoor
