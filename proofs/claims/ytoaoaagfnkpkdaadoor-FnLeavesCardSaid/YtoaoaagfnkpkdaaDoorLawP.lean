/- The laws over InclusionProof and ConsistencyProof, walked out of what the program's functions answer. -/
import Derived.Test.YtoaoaagfnkpkdaaDoorPrf
import Derived.Test.YtoaoaagfnkpkdaaDoorJn6
import Derived.Test.YtoaoaagfnkpkdaaDoorLaid
namespace Go.Proofs.YtoaoaagfnkpkdaaDoor
open Go.RowKit
set_option linter.unusedVariables false

/- What the program's functions answer: to be shown of the program's own text. -/
def IncPI : Prop := ∀ (a : Option Addr) (c n : Nat) (i : Int) (l : List ByteArray) (w : World), l.length = n → n ≤ c → SA w a l → n ≤ 1048576 → c ≤ 9223372036854775807 → (∀ x ∈ l, x.size ≤ maxLen) → (Lit.int .i64 i).wf = true → ArrU w 0 keys → 0 < w.heap.size →
    Calls Tryd.prog 18 #[.slice a n c, .int .i64 i] w fun e w' => ∃ v, e = .returned (.agg (pvs v (prfC l 0 i)).toArray) ∧ NewS w' w.heap.size v (incL l i) ∧ Below w.heap.size w w'
def ConPI : Prop := ∀ (a : Option Addr) (c n : Nat) (i : Int) (l : List ByteArray) (w : World), l.length = n → n ≤ c → SA w a l → n ≤ 1048576 → c ≤ 9223372036854775807 → (∀ x ∈ l, x.size ≤ maxLen) → (Lit.int .i64 i).wf = true → ArrU w 0 keys → 0 < w.heap.size →
    Calls Tryd.prog 19 #[.slice a n c, .int .i64 i] w fun e w' => ∃ v, e = .returned (.agg (pvs v (prfC l 1 i)).toArray) ∧ NewS w' w.heap.size v (conL l i) ∧ Below w.heap.size w w'
theorem incL_len (l : List ByteArray) (i : Int) : (incL l i).length ≤ 1000 := by
  unfold incL
  by_cases h : prfC l 0 i = 0
  · rw [if_pos h]
    have hl : ¬ 400 < l.length := fun hb => by rw [prfC_big hb] at h; cases h
    have := pthT_len (l := l) (by omega) i.toNat
    omega
  · rw [if_neg h]; exact Nat.zero_le _
theorem conL_len (l : List ByteArray) (i : Int) : (conL l i).length ≤ 1000 := by
  unfold conL
  by_cases h : prfC l 1 i = 0
  · rw [if_pos h]
    have hl : ¬ 400 < l.length := fun hb => by rw [prfC_big hb] at h; cases h
    by_cases hi : i < 1 ∨ (l.length : Int) + 1 ≤ i
    · unfold prfC at h
      rw [if_neg hl] at h
      by_cases ho : okLv l = false
      · rw [if_pos ho] at h; cases h
      · rw [if_neg ho, if_pos hi] at h; cases h
    · have := prT_len (l := l) (by omega) (k := i.toNat) (by omega) (by omega) true
      omega
  · rw [if_neg h]; exact Nat.zero_le _

/- A new slice of texts, with the block it lies in. -/
theorem NewS.blk {w : World} {base : Nat} {v : Value} {L : List ByteArray} (h : NewS w base v L) : ∃ a c g, v = .slice a L.length c ∧ c ≤ maxLen ∧ base ≤ g ∧ RowV w g (svl L) ∧ (L ≠ [] → a = some ⟨g, 0, none⟩ ∧ g < w.heap.size) := by
  obtain ⟨a, c, h1, h2, h3, h4⟩ := h
  by_cases hl : L = []
  · subst hl
    exact ⟨a, c, base, h1, h3, Nat.le_refl _, ⟨fun k v hv => by simp [svl] at hv, fun k hk => by simp [svl] at hk⟩, fun e => absurd rfl e⟩
  · obtain ⟨g, e1, e2, e3⟩ := h4 hl
    exact ⟨a, c, g, h1, h3, e2, e3, fun _ => ⟨e1, e3.lt (svl_ne hl)⟩⟩
theorem sa_blk {w : World} {g : Nat} {a : Option Addr} {L : List ByteArray} (h : RowV w g (svl L)) (ha : L ≠ [] → a = some ⟨g, 0, none⟩) : SA w a L := by
  by_cases hl : L = []
  · subst hl; exact SA.nil _ _
  · rw [ha hl]; exact h.sa
theorem row_keep {w w' : World} {g : Nat} {L : List ByteArray} (h : RowV w g (svl L)) (hg : L ≠ [] → g < w.heap.size) (hb : Below w.heap.size w w') : RowV w' g (svl L) := by
  by_cases hl : L = []
  · subst hl; exact ⟨fun k v hv => by simp [svl] at hv, fun k hk => by simp [svl] at hk⟩
  · exact h.below hb (hg hl)
theorem But.keep {w w' : World} {g j : Nat} {L : List ByteArray} (hb : But g w w') (h : RowV w j (svl L)) (hg : L ≠ [] → j ≠ g ∧ j < w.heap.size) : RowV w' j (svl L) := by
  by_cases hl : L = []
  · subst hl; exact ⟨fun k v hv => by simp [svl] at hv, fun k hk => by simp [svl] at hk⟩
  · exact hb.row h (hg hl).1 (hg hl).2
/- What lies where while the law runs. -/
structure SP (w0 : World) (B6 : Nat) (v6 : Value) (B8 : Nat) (v8 : Value) (z : Int) (gx g1 g2 : Nat) (L lx L2 : List ByteArray) (W : World) : Prop where
  r6 : RowV W B6 (pvl v6 z)
  r8 : RowV W B8 (pvl v8 z)
  r1 : RowV W g1 (svl L)
  rx : RowV W gx (svl lx)
  r2 : RowV W g2 (svl L2)
  l6 : B6 < W.heap.size
  l8 : B8 < W.heap.size
  lx' : gx < W.heap.size
  l1 : L ≠ [] → g1 < W.heap.size
  l2 : L2 ≠ [] → g2 < W.heap.size
  below : Below w0.heap.size w0 W
theorem SP.step {w0 : World} {B6 : Nat} {v6 : Value} {B8 : Nat} {v8 : Value} {z : Int} {gx g1 g2 : Nat} {L lx L2 : List ByteArray} {W W' : World} (h : Hid (SP w0 B6 v6 B8 v8 z gx g1 g2 L lx L2 W)) (b : Below W.heap.size W W') : Hid (SP w0 B6 v6 B8 v8 z gx g1 g2 L lx L2 W') :=
  ⟨h.out.r6.below b h.out.l6, h.out.r8.below b h.out.l8, row_keep h.out.r1 h.out.l1 b, h.out.rx.below b h.out.lx', row_keep h.out.r2 h.out.l2 b, Nat.lt_of_lt_of_le h.out.l6 b.size, Nat.lt_of_lt_of_le h.out.l8 b.size, Nat.lt_of_lt_of_le h.out.lx' b.size, fun e => Nat.lt_of_lt_of_le (h.out.l1 e) b.size, fun e => Nat.lt_of_lt_of_le (h.out.l2 e) b.size, h.out.below.trans (b.mono h.out.below.size)⟩
theorem SP.cells {w0 : World} {B6 : Nat} {v6 : Value} {B8 : Nat} {v8 : Value} {z : Int} {gx g1 g2 : Nat} {L lx L2 : List ByteArray} {W : World} (h : Hid (SP w0 B6 v6 B8 v8 z gx g1 g2 L lx L2 W)) :
    (W.cell? ⟨B6, 0, none⟩ = some v6 ∧ W.cell? ⟨B6, 1, none⟩ = some (.int .i64 z)) ∧ (W.cell? ⟨B8, 0, none⟩ = some v8 ∧ W.cell? ⟨B8, 1, none⟩ = some (.int .i64 z)) := ⟨h.out.r6.pvl, h.out.r8.pvl⟩
/- Blocks that are not the same. -/
structure SepP (w0 : World) (B6 B8 gx g1 g2 : Nat) (L : List ByteArray) : Prop where
  x6 : B6 ≠ gx
  x8 : B8 ≠ gx
  x1 : L ≠ [] → g1 ≠ gx
  x2 : L ≠ [] → g2 ≠ gx
  y6 : L ≠ [] → B6 ≠ g2
  y8 : L ≠ [] → B8 ≠ g2
  y1 : L ≠ [] → g1 ≠ g2
  yx : L ≠ [] → gx ≠ g2
  bx : w0.heap.size ≤ gx
  b2 : L ≠ [] → w0.heap.size ≤ g2
theorem SP.markX {w0 : World} {B6 : Nat} {v6 : Value} {B8 : Nat} {v8 : Value} {z : Int} {gx g1 g2 : Nat} {L lx lx2 : List ByteArray} {W W' : World} (S : SepP w0 B6 B8 gx g1 g2 L) (h : Hid (SP w0 B6 v6 B8 v8 z gx g1 g2 L lx L W)) (r : RowV W' gx (svl lx2)) (b : But gx W W') : Hid (SP w0 B6 v6 B8 v8 z gx g1 g2 L lx2 L W') :=
  ⟨b.row h.out.r6 S.x6 h.out.l6, b.row h.out.r8 S.x8 h.out.l8, b.keep h.out.r1 (fun e => ⟨S.x1 e, h.out.l1 e⟩), r, b.keep h.out.r2 (fun e => ⟨S.x2 e, h.out.l2 e⟩), Nat.lt_of_lt_of_le h.out.l6 b.size, Nat.lt_of_lt_of_le h.out.l8 b.size, Nat.lt_of_lt_of_le h.out.lx' b.size, fun e => Nat.lt_of_lt_of_le (h.out.l1 e) b.size, fun e => Nat.lt_of_lt_of_le (h.out.l2 e) b.size, h.out.below.trans (b.below S.bx h.out.below.size)⟩
theorem SP.mark2 {w0 : World} {B6 : Nat} {v6 : Value} {B8 : Nat} {v8 : Value} {z : Int} {gx g1 g2 : Nat} {L lx L2 : List ByteArray} {W W' : World} (S : SepP w0 B6 B8 gx g1 g2 L) (h : Hid (SP w0 B6 v6 B8 v8 z gx g1 g2 L lx L W)) (hl : L ≠ []) (r : RowV W' g2 (svl L2)) (b : But g2 W W') : Hid (SP w0 B6 v6 B8 v8 z gx g1 g2 L lx L2 W') :=
  ⟨b.row h.out.r6 (S.y6 hl) h.out.l6, b.row h.out.r8 (S.y8 hl) h.out.l8, b.keep h.out.r1 (fun e => ⟨S.y1 e, h.out.l1 e⟩), b.row h.out.rx (S.yx hl) h.out.lx', r, Nat.lt_of_lt_of_le h.out.l6 b.size, Nat.lt_of_lt_of_le h.out.l8 b.size, Nat.lt_of_lt_of_le h.out.lx' b.size, fun e => Nat.lt_of_lt_of_le (h.out.l1 e) b.size, fun _ => Nat.lt_of_lt_of_le (h.out.l2 hl) b.size, h.out.below.trans (b.below (S.b2 hl) h.out.below.size)⟩
/- The helpers, at such a world. -/
theorem spEq {w0 : World} {B6 : Nat} {a6 a8 : Option Addr} {m c6 c8 : Nat} {B8 : Nat} {z : Int} {gx g1 g2 : Nat} {L lx : List ByteArray} {W : World} (h : Hid (SP w0 B6 (.slice a6 m c6) B8 (.slice a8 m c8) z gx g1 g2 L lx L W)) (hm : L.length = m) (hb : m ≤ 1000) (h6 : L ≠ [] → a6 = some ⟨g1, 0, none⟩) (h8 : L ≠ [] → a8 = some ⟨g2, 0, none⟩) :
    Calls Tryd.prog 38 #[.agg #[.slice a8 m c8, .int .i64 z], .agg #[.slice a6 m c6, .int .i64 z]] W fun e w' => e = .returned (.bool true) ∧ Hid (SP w0 B6 (.slice a6 m c6) B8 (.slice a8 m c8) z gx g1 g2 L lx L w') :=
  (eqP_any a8 a6 c8 c6 m z L W hm (sa_blk h.out.r2 h8) (sa_blk h.out.r1 h6) (by omega)).mono fun e w' k => ⟨k.1, SP.step h k.2⟩
theorem spMarkX {w0 : World} {B6 : Nat} {v6 v8 : Value} {n : Nat} {B8 : Nat} {z : Int} {gx g1 g2 : Nat} {L lx : List ByteArray} {W : World} (S : SepP w0 B6 B8 gx g1 g2 L) (h : Hid (SP w0 B6 v6 B8 v8 z gx g1 g2 L lx L W)) (hn : lx.length = n) (hb : n ≤ 1048576) :
    Calls Tryd.prog 39 #[.slice (some ⟨gx, 0, none⟩) n n, .int .i64 1] W fun e w' => e = .returned (.int .i64 ((1 + n : Nat) : Int)) ∧ Hid (SP w0 B6 v6 B8 v8 z gx g1 g2 L (mks 1 n) L w') :=
  (markS_row gx n n 1 lx W hn h.out.rx h.out.lx' hb (Nat.le_refl _) (by omega)).mono fun e w' k => ⟨k.1, SP.markX S h k.2.1 k.2.2⟩
theorem spMarkP {w0 : World} {B6 : Nat} {v6 : Value} {a8 : Option Addr} {m c8 : Nat} {B8 : Nat} {z : Int} {gx g1 g2 : Nat} {L lx : List ByteArray} {W : World} (S : SepP w0 B6 B8 gx g1 g2 L) (h : Hid (SP w0 B6 v6 B8 (.slice a8 m c8) z gx g1 g2 L lx L W)) (hm : L.length = m) (hb : m ≤ 1000) (h8 : L ≠ [] → a8 = some ⟨g2, 0, none⟩) :
    Calls Tryd.prog 40 #[.agg #[.slice a8 m c8, .int .i64 z], .int .i64 1] W fun e w' => e = .returned (.int .i64 ((1 + m : Nat) : Int)) ∧ Hid (SP w0 B6 v6 B8 (.slice a8 m c8) z gx g1 g2 L lx (mks 1 m) w') := by
  by_cases hl : L = []
  · subst hl
    subst hm
    refine (markP_nil a8 c8 1 z W (by omega)).mono fun e w' k => ⟨k.1, ?_⟩
    exact SP.step h k.2
  · obtain rfl := h8 hl
    exact (markP_row g2 c8 m 1 z L W hm h.out.r2 (h.out.l2 hl) (by omega) (Nat.le_refl _) (by omega)).mono fun e w' k => ⟨k.1, SP.mark2 S h hl k.2.1 k.2.2⟩
theorem spHeld {w0 : World} {B6 : Nat} {v6 : Value} {a8 : Option Addr} {m c8 : Nat} {B8 : Nat} {z : Int} {gx g1 g2 : Nat} {L lx : List ByteArray} {W : World} (h : Hid (SP w0 B6 v6 B8 (.slice a8 m c8) z gx g1 g2 L lx (mks 1 m) W)) (hm : L.length = m) (hb : m ≤ 1000) (h8 : L ≠ [] → a8 = some ⟨g2, 0, none⟩) :
    Calls Tryd.prog 41 #[.agg #[.slice a8 m c8, .int .i64 z], .int .i64 1] W fun e w' => e = .returned (.int .i64 ((1 + m : Nat) : Int)) ∧ Hid (SP w0 B6 v6 B8 (.slice a8 m c8) z gx g1 g2 L lx (mks 1 m) w') :=
  (heldP_any a8 c8 m 1 z W (sa_blk h.out.r2 (fun e => h8 (fun e2 => e (by subst e2; rw [← hm]; rfl)))) (by omega) (Nat.le_refl _) (by omega)).mono fun e w' k => ⟨k.1, SP.step h k.2⟩
theorem SP.start {w w2 w4 w5 w6 w8 : World} {g1 g2 : Nat} {v6 v8 : Value} {z : Int} {L l : List ByteArray} (b02 : Below w.heap.size w w2) (b24 : Below w2.heap.size w2 w4) (b45 : Below w4.heap.size w4 w5) (b56 : Below w5.heap.size w5 w6) (b68 : Below w6.heap.size w6 w8) (e24 : w2.heap.size < w4.heap.size) (e45 : w4.heap.size < w5.heap.size) (e68 : w6.heap.size < w8.heap.size)
    (r6 : RowV w4 w2.heap.size (pvl v6 z)) (r1 : RowV w2 g1 (svl L)) (l1 : L ≠ [] → g1 < w2.heap.size) (rx : RowV w5 w4.heap.size (svl l)) (r2 : RowV w6 g2 (svl L)) (l2 : L ≠ [] → g2 < w6.heap.size) (r8 : RowV w8 w6.heap.size (pvl v8 z)) : Hid (SP w w2.heap.size v6 w6.heap.size v8 z w4.heap.size g1 g2 L l L w8) := by
  have z2 := b02.size
  have z4 := b24.size
  have z5 := b45.size
  have z6 := b56.size
  have z8 := b68.size
  have b48 : Below w4.heap.size w4 w8 := (b45.trans (b56.mono z5)).trans (b68.mono (by omega))
  have b58 : Below w5.heap.size w5 w8 := b56.trans (b68.mono z6)
  have b28 : Below w2.heap.size w2 w8 := b24.trans (b48.mono z4)
  exact ⟨r6.below b48 e24, r8, row_keep r1 l1 b28, rx.below b58 e45, row_keep r2 l2 b68, by omega, e68, by omega, fun e => by have := l1 e; omega, fun e => by have := l2 e; omega, b02.trans (b28.mono z2)⟩
theorem SepP.hid {w : World} {B6 B8 gx g1 g2 : Nat} {L : List ByteArray} (h : SepP w B6 B8 gx g1 g2 L) : Hid (SepP w B6 B8 gx g1 g2 L) := h
theorem hid_of {p : Prop} (h : p) : Hid p := h
theorem newP (w : World) (v : Value) (z : Int) : ∃ w', w.alloc (.cells #[v, .int .i64 z] 29) = w' ∧ RowV w' w.heap.size (pvl v z) ∧ Below w.heap.size w w' ∧ w.heap.size < w'.heap.size :=
  ⟨_, rfl, RowV.new w (pvl v z) _, (Below.refl _ _).alloc (Nat.le_refl _) _, by rw [show (w.alloc (.cells #[v, .int .i64 z] 29)).heap.size = w.heap.size + 1 from Array.size_push _]; omega⟩
theorem SepP.start {w w1 w2 w4 w5 w6 : World} {g1 g2 : Nat} {L : List ByteArray} (z1 : w.heap.size ≤ w1.heap.size) (z2 : w1.heap.size ≤ w2.heap.size) (e24 : w2.heap.size < w4.heap.size) (e45 : w4.heap.size < w5.heap.size) (z6 : w5.heap.size ≤ w6.heap.size) (l1 : L ≠ [] → g1 < w2.heap.size) (n2 : w5.heap.size ≤ g2) (l2 : L ≠ [] → g2 < w6.heap.size) : SepP w w2.heap.size w6.heap.size w4.heap.size g1 g2 L :=
  ⟨by omega, by omega, fun e => by have := l1 e; omega, fun e => by omega, fun e => by omega, fun e => by have := l2 e; omega, fun e => by have := l1 e; omega, fun e => by omega, by omega, fun e => by omega⟩
set_option maxRecDepth 100000 in
set_option maxHeartbeats 2000000 in
theorem lawIncP (HI : IncPI) (a : Option Addr) (c n : Nat) (l : List ByteArray) (i : Int) (w : World) (hn : l.length = n) (h : SA w a l) (hM : n ≤ maxLen) (hx : ∀ x ∈ l, x.size ≤ maxLen) (hi : (Lit.int .i64 i).wf = true) (hk : ArrU w 0 keys) (h0 : 0 < w.heap.size) :
    Calls Tryd.prog 9 #[.slice a n c, .int .i64 i] w fun e w' => e = .returned (.bool true) ∧ Below w.heap.size w w' := by
  have HA : Hid (SA w a l) := h
  have HK : Hid (ArrU w 0 keys) := hk
  have HX : Hid (∀ x ∈ l, x.size ≤ maxLen) := hx
  have hSz : Calls Tryd.prog 34 #[.slice a n c, .int .i64 1048576] w fun e w' => e = .returned (.int .i64 (roomL l)) ∧ w = w' := (szS_any a c n l w hn h hM hx).mono fun e w' h => ⟨h.1, h.2.symm⟩
  have HSz : Hid _ := hSz
  by_cases hr : 0 ≤ roomL l
  · have hbd := (roomL_bd hr).1
    obtain ⟨m, hm⟩ : ∃ m, (incL l i).length = m := ⟨_, rfl⟩
    have hm1 : m ≤ 1000 := by rw [← hm]; exact incL_len l i
    have hTo : ∀ w0, SA w0 a l → Calls Tryd.prog 35 #[.slice a n c] w0 fun e w' => e = .returned (.slice (some ⟨w0.heap.size, 0, none⟩) n n) ∧ RowV w' w0.heap.size (svl l) ∧ Below w0.heap.size w0 w' ∧ w0.heap.size < w'.heap.size := fun w0 h0 => toS_row a c n l w0 hn h0 (by omega)
    have hS : ∀ w0 g, RowV w0 g (svl l) → Calls Tryd.prog 37 #[.slice (some ⟨g, 0, none⟩) n n, .int .i64 i] w0 fun e w' => ∃ a6 c6 g1, e = .returned (.agg #[.slice a6 m c6, .int .i64 (prfC l 0 i)]) ∧ w0.heap.size ≤ g1 ∧ Hid (RowV w' g1 (svl (incL l i))) ∧ Hid (incL l i ≠ [] → a6 = some ⟨g1, 0, none⟩ ∧ g1 < w'.heap.size) ∧ Below w0.heap.size w0 w' := fun w0 g hg =>
      (specIncP _ n n i l w0 hn (Nat.le_refl _) hg.sa (by omega) (by omega) HX.out).mono fun e w' k => by
        obtain ⟨v, rfl, kN, kB⟩ := k
        obtain ⟨a6, c6, g1, rfl, _, k1, k2, k3⟩ := kN.blk
        rw [hm]
        exact ⟨a6, c6, g1, rfl, k1, k2, k3, kB⟩
    have hI : ∀ w0 g, RowV w0 g (svl l) → ArrU w0 0 keys → 0 < w0.heap.size → Calls Tryd.prog 18 #[.slice (some ⟨g, 0, none⟩) n n, .int .i64 i] w0 fun e w' => ∃ a6 c6 g1, e = .returned (.agg #[.slice a6 m c6, .int .i64 (prfC l 0 i)]) ∧ w0.heap.size ≤ g1 ∧ Hid (RowV w' g1 (svl (incL l i))) ∧ Hid (incL l i ≠ [] → a6 = some ⟨g1, 0, none⟩ ∧ g1 < w'.heap.size) ∧ Below w0.heap.size w0 w' := fun w0 g hg k1 k2 =>
      (HI _ n n i l w0 hn (Nat.le_refl _) hg.sa (by omega) (by omega) HX.out hi k1 k2).mono fun e w' k => by
        obtain ⟨v, rfl, kN, kB⟩ := k
        obtain ⟨a6, c6, g1, rfl, _, k1, k2, k3⟩ := kN.blk
        rw [hm]
        exact ⟨a6, c6, g1, rfl, k1, k2, k3, kB⟩
    have hE : ∀ w0 g1 g2, RowV w0 g1 (svl l) → RowV w0 g2 (svl l) → Calls Tryd.prog 36 #[.slice (some ⟨g1, 0, none⟩) n n, .slice (some ⟨g2, 0, none⟩) n n] w0 fun e w' => e = .returned (.bool true) ∧ Below w0.heap.size w0 w' := fun w0 g1 g2 k1 k2 => by
      have := eqS_any (some ⟨g1, 0, none⟩) (some ⟨g2, 0, none⟩) n n l l w0 k1.sa k2.sa (by omega) (by omega)
      rw [hn, decide_eq_true rfl] at this
      exact this
    generalize incL l i = L at *
    generalize prfC l 0 i = z at *
    have hEq : ∀ W B6 B8 a6 a8 c6 c8 gx g1 g2 lx, Hid (SP w B6 (.slice a6 m c6) B8 (.slice a8 m c8) z gx g1 g2 L lx L W) → (L ≠ [] → a6 = some ⟨g1, 0, none⟩) → (L ≠ [] → a8 = some ⟨g2, 0, none⟩) → Calls Tryd.prog 38 #[.agg #[.slice a8 m c8, .int .i64 z], .agg #[.slice a6 m c6, .int .i64 z]] W fun e w' => e = .returned (.bool true) ∧ Hid (SP w B6 (.slice a6 m c6) B8 (.slice a8 m c8) z gx g1 g2 L lx L w') := fun W B6 B8 a6 a8 c6 c8 gx g1 g2 lx h k6 k8 => spEq h hm hm1 k6 k8
    obtain ⟨kx, hkx⟩ : ∃ kx : Int, ((1 + n : Nat) : Int) = kx := ⟨_, rfl⟩
    obtain ⟨km, hkm⟩ : ∃ km : Int, ((1 + m : Nat) : Int) = km := ⟨_, rfl⟩
    have hMx : ∀ W B6 B8 v6 v8 gx g1 g2, SepP w B6 B8 gx g1 g2 L → Hid (SP w B6 v6 B8 v8 z gx g1 g2 L l L W) → Calls Tryd.prog 39 #[.slice (some ⟨gx, 0, none⟩) n n, .int .i64 1] W fun e w' => e = .returned (.int .i64 kx) ∧ Hid (SP w B6 v6 B8 v8 z gx g1 g2 L (mks 1 n) L w') := fun W B6 B8 v6 v8 gx g1 g2 S h => by rw [← hkx]; exact spMarkX S h hn (by omega)
    have hMg : ∀ W B6 B8 v6 a8 c8 gx g1 g2 lx, SepP w B6 B8 gx g1 g2 L → Hid (SP w B6 v6 B8 (.slice a8 m c8) z gx g1 g2 L lx L W) → (L ≠ [] → a8 = some ⟨g2, 0, none⟩) → Calls Tryd.prog 40 #[.agg #[.slice a8 m c8, .int .i64 z], .int .i64 1] W fun e w' => e = .returned (.int .i64 km) ∧ Hid (SP w B6 v6 B8 (.slice a8 m c8) z gx g1 g2 L lx (mks 1 m) w') := fun W B6 B8 v6 a8 c8 gx g1 g2 lx S h k => by rw [← hkm]; exact spMarkP S h hm hm1 k
    have hHg : ∀ W B6 B8 v6 a8 c8 gx g1 g2 lx, Hid (SP w B6 v6 B8 (.slice a8 m c8) z gx g1 g2 L lx (mks 1 m) W) → (L ≠ [] → a8 = some ⟨g2, 0, none⟩) → Calls Tryd.prog 41 #[.agg #[.slice a8 m c8, .int .i64 z], .int .i64 1] W fun e w' => e = .returned (.int .i64 km) ∧ Hid (SP w B6 v6 B8 (.slice a8 m c8) z gx g1 g2 L lx (mks 1 m) w') := fun W B6 B8 v6 a8 c8 gx g1 g2 lx h k => by rw [← hkm]; exact spHeld h hm hm1 k
    have hEq2 : ∀ W a6 a8 c6 c8 g1 g2, RowV W g1 (svl L) → RowV W g2 (svl L) → (L ≠ [] → a6 = some ⟨g1, 0, none⟩) → (L ≠ [] → a8 = some ⟨g2, 0, none⟩) → Calls Tryd.prog 38 #[.agg #[.slice a8 m c8, .int .i64 z], .agg #[.slice a6 m c6, .int .i64 z]] W fun e w' => e = .returned (.bool true) ∧ Below W.heap.size W w' := fun W a6 a8 c6 c8 g1 g2 r1 r2 k6 k8 => eqP_any a8 a6 c8 c6 m z L W hm (sa_blk r2 k8) (sa_blk r1 k6) (by omega)
    have hx0 : ¬ kx < 0 := by omega
    have hm0 : ¬ km < 0 := by omega
    have hmm : (km != km) = false := by simp
    generalize roomL l = q at *
    clear h hk hx hSz HI hn hM hkx hkm hi
    go_enter Tryd.func9, Tryd.ntmps9
    go_wp2_with (first
      | (go_at_call 34; refine Calls.mono HSz.out ?_; rintro e w' ⟨rfl, rfl⟩)
      | (go_at_call 35; (with_reducible refine (hTo w HA.out).mono ?_); rintro e w1 ⟨rfl, hA1, hB1, hz1⟩)
      | (go_at_call 37; (with_reducible refine (hS w1 _ hA1).mono ?_); rintro e w2 ⟨a6, c6, g1, rfl, ng1, R1, h6, hB2⟩; have b02 : Below w.heap.size w w2 := hB1.trans (hB2.mono (by omega)); have z2 := hB2.size)
      | (go_at_call 35; obtain ⟨w4, hw4, hA4, b24, e4⟩ := newP w2 (.slice a6 m c6) z; have b04 : Below w.heap.size w w4 := b02.trans (b24.mono (by omega)); rw [hw4]; clear hw4; (with_reducible refine (hTo w4 (HA.out.below b04)).mono ?_); rintro e w5 ⟨rfl, hA5, hB5, hz5⟩; have b05 : Below w.heap.size w w5 := b04.trans (hB5.mono (by omega)))
      | (go_at_call 18; (with_reducible refine (hI w5 _ hA5 (HK.out.below b05 h0) (by omega)).mono ?_); rintro e w6 ⟨a8, c8, g2, rfl, ng2, R2, h8, hB6⟩; have z6 := hB6.size; obtain ⟨w8, hw8, hA8, b68, e8⟩ := newP w6 (.slice a8 m c8) z; have S8 := SP.start b02 b24 hB5 hB6 b68 e4 hz5 e8 hA4 R1.out (fun e => (h6.out e).2) hA5 R2.out (fun e => (h8.out e).2) hA8; have HP := SepP.hid (SepP.start (w := w) (w1 := w1) (by omega) z2 e4 hz5 z6 (fun e => (h6.out e).2) ng2 (fun e => (h8.out e).2)); have k6 := hid_of fun e => (h6.out e).1; have k8 := hid_of fun e => (h8.out e).1; clear b68 hA8 hA5 hA4 R1 R2 h6 h8 hB5 hB6 b24 b04 b05 hA1 hB1 hB2; obtain ⟨⟨p0, p1⟩, ⟨q0, q1⟩⟩ := SP.cells S8; subst hw8)
      | (go_at_call 38; (with_reducible refine (hEq (w6.alloc (.cells #[.slice a8 m c8, .int .i64 z] 29)) _ _ _ _ _ _ _ _ _ _ S8 k6.out k8.out).mono ?_); rintro e w9 ⟨rfl, S9⟩)
      | (go_at_call 35; (with_reducible refine (hTo w9 (HA.out.below S9.out.below)).mono ?_); rintro e w10 ⟨rfl, hA10, hB10, hz10⟩; have S10 := SP.step S9 hB10)
      | (go_at_call 36; (with_reducible refine (hE w10 _ _ S10.out.rx hA10).mono ?_); rintro e w11 ⟨rfl, hB11⟩; have S11 := SP.step S10 hB11)
      | (go_at_call 39; (with_reducible refine (hMx w11 _ _ _ _ _ _ _ HP.out S11).mono ?_); rintro e w12 ⟨rfl, S12⟩; obtain ⟨⟨p0, p1⟩, ⟨q0, q1⟩⟩ := SP.cells S12)
      | (go_at_call 38; (with_reducible refine (hEq w12 _ _ _ _ _ _ _ _ _ _ S12 k6.out k8.out).mono ?_); rintro e w13 ⟨rfl, S13⟩; obtain ⟨⟨p0, p1⟩, ⟨q0, q1⟩⟩ := SP.cells S13)
      | (go_at_call 40; (with_reducible refine (hMg w13 _ _ _ _ _ _ _ _ _ HP.out S13 k8.out).mono ?_); rintro e w14 ⟨rfl, S14⟩; obtain ⟨⟨p0, p1⟩, ⟨q0, q1⟩⟩ := SP.cells S14)
      | (go_at_call 41; (with_reducible refine (hHg w14 _ _ _ _ _ _ _ _ _ S14 k8.out).mono ?_); rintro e w15 ⟨rfl, S15⟩)
      | (go_at_call 35; (with_reducible refine (hTo w15 (HA.out.below S15.out.below)).mono ?_); rintro e w16 ⟨rfl, hA16, hB16, hz16⟩; have S16 := SP.step S15 hB16; have z16 := S16.out.below.size)
      | (go_at_call 18; (with_reducible refine (hI w16 _ hA16 (HK.out.below S16.out.below h0) (by omega)).mono ?_); rintro e w17 ⟨a9, c9, g3, rfl, ng3, R3, h9, hB17⟩; obtain ⟨w19, hw19, hA19, b19, e19⟩ := newP w17 (.slice a9 m c9) z; have S19 := SP.step (SP.step S16 hB17) b19; have R19 := hid_of (row_keep R3.out (fun e => (h9.out e).2) b19); have k9 := hid_of fun e => (h9.out e).1; obtain ⟨⟨p0, p1⟩, ⟨q0, q1⟩⟩ := SP.cells S19; clear hA19 b19 e19 R3 h9 hB17; subst hw19)
      | (go_at_call 38; (with_reducible refine (hEq2 (w17.alloc (.cells #[.slice a9 m c9, .int .i64 z] 29)) _ _ _ _ _ _ S19.out.r1 R19.out k6.out k9.out).mono ?_); rintro e w20 ⟨rfl, hB20⟩; have S20 := SP.step S19 hB20; obtain ⟨⟨p0, p1⟩, ⟨q0, q1⟩⟩ := SP.cells S20)
      | (go_at_call 41; (with_reducible refine (hHg w20 _ _ _ _ _ _ _ _ _ S20 k8.out).mono ?_); rintro e w21 ⟨rfl, S21⟩))
    go_ret
    exact ⟨rfl, S21.out.below⟩
  · have hr' : roomL l < 0 := by omega
    generalize roomL l = q at *
    clear h hk hx hSz HI hn hM
    go_enter Tryd.func9, Tryd.ntmps9
    go_wp2_with (first
      | (go_at_call 34; refine Calls.mono HSz.out ?_; rintro e w' ⟨rfl, rfl⟩))
    go_ret
    exact ⟨rfl, Below.refl _ _⟩
set_option maxRecDepth 100000 in
set_option maxHeartbeats 2000000 in
theorem lawConP (HI : ConPI) (a : Option Addr) (c n : Nat) (l : List ByteArray) (i : Int) (w : World) (hn : l.length = n) (h : SA w a l) (hM : n ≤ maxLen) (hx : ∀ x ∈ l, x.size ≤ maxLen) (hi : (Lit.int .i64 i).wf = true) (hk : ArrU w 0 keys) (h0 : 0 < w.heap.size) :
    Calls Tryd.prog 11 #[.slice a n c, .int .i64 i] w fun e w' => e = .returned (.bool true) ∧ Below w.heap.size w w' := by
  have HA : Hid (SA w a l) := h
  have HK : Hid (ArrU w 0 keys) := hk
  have HX : Hid (∀ x ∈ l, x.size ≤ maxLen) := hx
  have hSz : Calls Tryd.prog 34 #[.slice a n c, .int .i64 1048576] w fun e w' => e = .returned (.int .i64 (roomL l)) ∧ w = w' := (szS_any a c n l w hn h hM hx).mono fun e w' h => ⟨h.1, h.2.symm⟩
  have HSz : Hid _ := hSz
  by_cases hr : 0 ≤ roomL l
  · have hbd := (roomL_bd hr).1
    obtain ⟨m, hm⟩ : ∃ m, (conL l i).length = m := ⟨_, rfl⟩
    have hm1 : m ≤ 1000 := by rw [← hm]; exact conL_len l i
    have hTo : ∀ w0, SA w0 a l → Calls Tryd.prog 35 #[.slice a n c] w0 fun e w' => e = .returned (.slice (some ⟨w0.heap.size, 0, none⟩) n n) ∧ RowV w' w0.heap.size (svl l) ∧ Below w0.heap.size w0 w' ∧ w0.heap.size < w'.heap.size := fun w0 h0 => toS_row a c n l w0 hn h0 (by omega)
    have hS : ∀ w0 g, RowV w0 g (svl l) → Calls Tryd.prog 42 #[.slice (some ⟨g, 0, none⟩) n n, .int .i64 i] w0 fun e w' => ∃ a6 c6 g1, e = .returned (.agg #[.slice a6 m c6, .int .i64 (prfC l 1 i)]) ∧ w0.heap.size ≤ g1 ∧ Hid (RowV w' g1 (svl (conL l i))) ∧ Hid (conL l i ≠ [] → a6 = some ⟨g1, 0, none⟩ ∧ g1 < w'.heap.size) ∧ Below w0.heap.size w0 w' := fun w0 g hg =>
      (specConP _ n n i l w0 hn (Nat.le_refl _) hg.sa (by omega) (by omega) HX.out).mono fun e w' k => by
        obtain ⟨v, rfl, kN, kB⟩ := k
        obtain ⟨a6, c6, g1, rfl, _, k1, k2, k3⟩ := kN.blk
        rw [hm]
        exact ⟨a6, c6, g1, rfl, k1, k2, k3, kB⟩
    have hI : ∀ w0 g, RowV w0 g (svl l) → ArrU w0 0 keys → 0 < w0.heap.size → Calls Tryd.prog 19 #[.slice (some ⟨g, 0, none⟩) n n, .int .i64 i] w0 fun e w' => ∃ a6 c6 g1, e = .returned (.agg #[.slice a6 m c6, .int .i64 (prfC l 1 i)]) ∧ w0.heap.size ≤ g1 ∧ Hid (RowV w' g1 (svl (conL l i))) ∧ Hid (conL l i ≠ [] → a6 = some ⟨g1, 0, none⟩ ∧ g1 < w'.heap.size) ∧ Below w0.heap.size w0 w' := fun w0 g hg k1 k2 =>
      (HI _ n n i l w0 hn (Nat.le_refl _) hg.sa (by omega) (by omega) HX.out hi k1 k2).mono fun e w' k => by
        obtain ⟨v, rfl, kN, kB⟩ := k
        obtain ⟨a6, c6, g1, rfl, _, k1, k2, k3⟩ := kN.blk
        rw [hm]
        exact ⟨a6, c6, g1, rfl, k1, k2, k3, kB⟩
    have hE : ∀ w0 g1 g2, RowV w0 g1 (svl l) → RowV w0 g2 (svl l) → Calls Tryd.prog 36 #[.slice (some ⟨g1, 0, none⟩) n n, .slice (some ⟨g2, 0, none⟩) n n] w0 fun e w' => e = .returned (.bool true) ∧ Below w0.heap.size w0 w' := fun w0 g1 g2 k1 k2 => by
      have := eqS_any (some ⟨g1, 0, none⟩) (some ⟨g2, 0, none⟩) n n l l w0 k1.sa k2.sa (by omega) (by omega)
      rw [hn, decide_eq_true rfl] at this
      exact this
    generalize conL l i = L at *
    generalize prfC l 1 i = z at *
    have hEq : ∀ W B6 B8 a6 a8 c6 c8 gx g1 g2 lx, Hid (SP w B6 (.slice a6 m c6) B8 (.slice a8 m c8) z gx g1 g2 L lx L W) → (L ≠ [] → a6 = some ⟨g1, 0, none⟩) → (L ≠ [] → a8 = some ⟨g2, 0, none⟩) → Calls Tryd.prog 38 #[.agg #[.slice a8 m c8, .int .i64 z], .agg #[.slice a6 m c6, .int .i64 z]] W fun e w' => e = .returned (.bool true) ∧ Hid (SP w B6 (.slice a6 m c6) B8 (.slice a8 m c8) z gx g1 g2 L lx L w') := fun W B6 B8 a6 a8 c6 c8 gx g1 g2 lx h k6 k8 => spEq h hm hm1 k6 k8
    obtain ⟨kx, hkx⟩ : ∃ kx : Int, ((1 + n : Nat) : Int) = kx := ⟨_, rfl⟩
    obtain ⟨km, hkm⟩ : ∃ km : Int, ((1 + m : Nat) : Int) = km := ⟨_, rfl⟩
    have hMx : ∀ W B6 B8 v6 v8 gx g1 g2, SepP w B6 B8 gx g1 g2 L → Hid (SP w B6 v6 B8 v8 z gx g1 g2 L l L W) → Calls Tryd.prog 39 #[.slice (some ⟨gx, 0, none⟩) n n, .int .i64 1] W fun e w' => e = .returned (.int .i64 kx) ∧ Hid (SP w B6 v6 B8 v8 z gx g1 g2 L (mks 1 n) L w') := fun W B6 B8 v6 v8 gx g1 g2 S h => by rw [← hkx]; exact spMarkX S h hn (by omega)
    have hMg : ∀ W B6 B8 v6 a8 c8 gx g1 g2 lx, SepP w B6 B8 gx g1 g2 L → Hid (SP w B6 v6 B8 (.slice a8 m c8) z gx g1 g2 L lx L W) → (L ≠ [] → a8 = some ⟨g2, 0, none⟩) → Calls Tryd.prog 40 #[.agg #[.slice a8 m c8, .int .i64 z], .int .i64 1] W fun e w' => e = .returned (.int .i64 km) ∧ Hid (SP w B6 v6 B8 (.slice a8 m c8) z gx g1 g2 L lx (mks 1 m) w') := fun W B6 B8 v6 a8 c8 gx g1 g2 lx S h k => by rw [← hkm]; exact spMarkP S h hm hm1 k
    have hHg : ∀ W B6 B8 v6 a8 c8 gx g1 g2 lx, Hid (SP w B6 v6 B8 (.slice a8 m c8) z gx g1 g2 L lx (mks 1 m) W) → (L ≠ [] → a8 = some ⟨g2, 0, none⟩) → Calls Tryd.prog 41 #[.agg #[.slice a8 m c8, .int .i64 z], .int .i64 1] W fun e w' => e = .returned (.int .i64 km) ∧ Hid (SP w B6 v6 B8 (.slice a8 m c8) z gx g1 g2 L lx (mks 1 m) w') := fun W B6 B8 v6 a8 c8 gx g1 g2 lx h k => by rw [← hkm]; exact spHeld h hm hm1 k
    have hEq2 : ∀ W a6 a8 c6 c8 g1 g2, RowV W g1 (svl L) → RowV W g2 (svl L) → (L ≠ [] → a6 = some ⟨g1, 0, none⟩) → (L ≠ [] → a8 = some ⟨g2, 0, none⟩) → Calls Tryd.prog 38 #[.agg #[.slice a8 m c8, .int .i64 z], .agg #[.slice a6 m c6, .int .i64 z]] W fun e w' => e = .returned (.bool true) ∧ Below W.heap.size W w' := fun W a6 a8 c6 c8 g1 g2 r1 r2 k6 k8 => eqP_any a8 a6 c8 c6 m z L W hm (sa_blk r2 k8) (sa_blk r1 k6) (by omega)
    have hx0 : ¬ kx < 0 := by omega
    have hm0 : ¬ km < 0 := by omega
    have hmm : (km != km) = false := by simp
    generalize roomL l = q at *
    clear h hk hx hSz HI hn hM hkx hkm hi
    go_enter Tryd.func11, Tryd.ntmps11
    go_wp2_with (first
      | (go_at_call 34; refine Calls.mono HSz.out ?_; rintro e w' ⟨rfl, rfl⟩)
      | (go_at_call 35; (with_reducible refine (hTo w HA.out).mono ?_); rintro e w1 ⟨rfl, hA1, hB1, hz1⟩)
      | (go_at_call 42; (with_reducible refine (hS w1 _ hA1).mono ?_); rintro e w2 ⟨a6, c6, g1, rfl, ng1, R1, h6, hB2⟩; have b02 : Below w.heap.size w w2 := hB1.trans (hB2.mono (by omega)); have z2 := hB2.size)
      | (go_at_call 35; obtain ⟨w4, hw4, hA4, b24, e4⟩ := newP w2 (.slice a6 m c6) z; have b04 : Below w.heap.size w w4 := b02.trans (b24.mono (by omega)); rw [hw4]; clear hw4; (with_reducible refine (hTo w4 (HA.out.below b04)).mono ?_); rintro e w5 ⟨rfl, hA5, hB5, hz5⟩; have b05 : Below w.heap.size w w5 := b04.trans (hB5.mono (by omega)))
      | (go_at_call 19; (with_reducible refine (hI w5 _ hA5 (HK.out.below b05 h0) (by omega)).mono ?_); rintro e w6 ⟨a8, c8, g2, rfl, ng2, R2, h8, hB6⟩; have z6 := hB6.size; obtain ⟨w8, hw8, hA8, b68, e8⟩ := newP w6 (.slice a8 m c8) z; have S8 := SP.start b02 b24 hB5 hB6 b68 e4 hz5 e8 hA4 R1.out (fun e => (h6.out e).2) hA5 R2.out (fun e => (h8.out e).2) hA8; have HP := SepP.hid (SepP.start (w := w) (w1 := w1) (by omega) z2 e4 hz5 z6 (fun e => (h6.out e).2) ng2 (fun e => (h8.out e).2)); have k6 := hid_of fun e => (h6.out e).1; have k8 := hid_of fun e => (h8.out e).1; clear b68 hA8 hA5 hA4 R1 R2 h6 h8 hB5 hB6 b24 b04 b05 hA1 hB1 hB2; obtain ⟨⟨p0, p1⟩, ⟨q0, q1⟩⟩ := SP.cells S8; subst hw8)
      | (go_at_call 38; (with_reducible refine (hEq (w6.alloc (.cells #[.slice a8 m c8, .int .i64 z] 29)) _ _ _ _ _ _ _ _ _ _ S8 k6.out k8.out).mono ?_); rintro e w9 ⟨rfl, S9⟩)
      | (go_at_call 35; (with_reducible refine (hTo w9 (HA.out.below S9.out.below)).mono ?_); rintro e w10 ⟨rfl, hA10, hB10, hz10⟩; have S10 := SP.step S9 hB10)
      | (go_at_call 36; (with_reducible refine (hE w10 _ _ S10.out.rx hA10).mono ?_); rintro e w11 ⟨rfl, hB11⟩; have S11 := SP.step S10 hB11)
      | (go_at_call 39; (with_reducible refine (hMx w11 _ _ _ _ _ _ _ HP.out S11).mono ?_); rintro e w12 ⟨rfl, S12⟩; obtain ⟨⟨p0, p1⟩, ⟨q0, q1⟩⟩ := SP.cells S12)
      | (go_at_call 38; (with_reducible refine (hEq w12 _ _ _ _ _ _ _ _ _ _ S12 k6.out k8.out).mono ?_); rintro e w13 ⟨rfl, S13⟩; obtain ⟨⟨p0, p1⟩, ⟨q0, q1⟩⟩ := SP.cells S13)
      | (go_at_call 40; (with_reducible refine (hMg w13 _ _ _ _ _ _ _ _ _ HP.out S13 k8.out).mono ?_); rintro e w14 ⟨rfl, S14⟩; obtain ⟨⟨p0, p1⟩, ⟨q0, q1⟩⟩ := SP.cells S14)
      | (go_at_call 41; (with_reducible refine (hHg w14 _ _ _ _ _ _ _ _ _ S14 k8.out).mono ?_); rintro e w15 ⟨rfl, S15⟩)
      | (go_at_call 35; (with_reducible refine (hTo w15 (HA.out.below S15.out.below)).mono ?_); rintro e w16 ⟨rfl, hA16, hB16, hz16⟩; have S16 := SP.step S15 hB16; have z16 := S16.out.below.size)
      | (go_at_call 19; (with_reducible refine (hI w16 _ hA16 (HK.out.below S16.out.below h0) (by omega)).mono ?_); rintro e w17 ⟨a9, c9, g3, rfl, ng3, R3, h9, hB17⟩; obtain ⟨w19, hw19, hA19, b19, e19⟩ := newP w17 (.slice a9 m c9) z; have S19 := SP.step (SP.step S16 hB17) b19; have R19 := hid_of (row_keep R3.out (fun e => (h9.out e).2) b19); have k9 := hid_of fun e => (h9.out e).1; obtain ⟨⟨p0, p1⟩, ⟨q0, q1⟩⟩ := SP.cells S19; clear hA19 b19 e19 R3 h9 hB17; subst hw19)
      | (go_at_call 38; (with_reducible refine (hEq2 (w17.alloc (.cells #[.slice a9 m c9, .int .i64 z] 29)) _ _ _ _ _ _ S19.out.r1 R19.out k6.out k9.out).mono ?_); rintro e w20 ⟨rfl, hB20⟩; have S20 := SP.step S19 hB20; obtain ⟨⟨p0, p1⟩, ⟨q0, q1⟩⟩ := SP.cells S20)
      | (go_at_call 41; (with_reducible refine (hHg w20 _ _ _ _ _ _ _ _ _ S20 k8.out).mono ?_); rintro e w21 ⟨rfl, S21⟩))
    go_ret
    exact ⟨rfl, S21.out.below⟩
  · have hr' : roomL l < 0 := by omega
    generalize roomL l = q at *
    clear h hk hx hSz HI hn hM
    go_enter Tryd.func11, Tryd.ntmps11
    go_wp2_with (first
      | (go_at_call 34; refine Calls.mono HSz.out ?_; rintro e w' ⟨rfl, rfl⟩))
    go_ret
    exact ⟨rfl, Below.refl _ _⟩
end Go.Proofs.YtoaoaagfnkpkdaaDoor
