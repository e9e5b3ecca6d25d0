/- The spec's l02Block. -/
import Derived.Test.YtchfpiadfmnphaaDoorRowU
import Derived.WalkLawsBesides
import Derived.Deep.RegionHeld3
import Derived.Deep.DrawnRows
import Derived.Deep.AppendLies
import Derived.Deep.RegionLaw
import Derived.Great.BuildSlice
import Derived.Deep.QuietTactic
import Derived.BigQuiet
namespace Go.Proofs.YtchfpiadfmnphaaDoor
open Go.RowKit
set_option linter.unusedVariables false
attribute [local go_sem] U_xor U_or U_and U_add U_shr U_shl U_not U_store U_one'
attribute [local go_sem ↓] Go.wp_at_zero Go.wp_at_succ U_cells

theorem Tryd.infoU32 : (Tryd.prog.info? 127).map (fun i => (i.zero, i.size, i.bytes)) = some (some (.int .u32 0), 1, 4) := by kernel_rfl
def b32 (s : ByteArray) (i : Nat) : UInt32 := UInt32.ofNat ((s[i]?).getD 0).toNat
def wordAt (s : ByteArray) (i : Nat) : UInt32 := sl (b32 s (4 * i)) 24 ||| sl (b32 s (4 * i + 1)) 16 ||| sl (b32 s (4 * i + 2)) 8 ||| b32 s (4 * i + 3)
def words (s : ByteArray) (k : Nat) : List UInt32 := (List.range k).map (wordAt s)
theorem words_succ (s : ByteArray) (k : Nat) : words s (k + 1) = words s k ++ [wordAt s k] := by
  unfold words; rw [List.range_succ, List.map_append]; rfl
theorem words_length (s : ByteArray) (k : Nat) : (words s k).length = k := by simp [words]
theorem set_next {l : List UInt32} {k n : Nat} {x : UInt32} (hl : l.length = k) (hk : k < n) : l ++ [x] ++ List.replicate (n - (k + 1)) 0 = (l ++ List.replicate (n - k) 0).set k x := by
  subst hl
  rw [List.set_append_right _ _ (Nat.le_refl _), Nat.sub_self]
  obtain ⟨d, hd⟩ : ∃ d, n - l.length = d + 1 := ⟨n - l.length - 1, by omega⟩
  rw [hd, show n - (l.length + 1) = d by omega, List.replicate_succ, List.set_cons_zero, List.append_assoc]
  rfl
def nxt (l : List UInt32) : UInt32 :=
  let k := l.length
  l.getD (k - 16) 0 + (rot (l.getD (k - 15) 0) 7 ^^^ rot (l.getD (k - 15) 0) 18 ^^^ sr (l.getD (k - 15) 0) 3) + l.getD (k - 7) 0 + (rot (l.getD (k - 2) 0) 17 ^^^ rot (l.getD (k - 2) 0) 19 ^^^ sr (l.getD (k - 2) 0) 10)
def sch (s : ByteArray) : Nat → List UInt32
  | 0 => words s 16
  | n + 1 => sch s n ++ [nxt (sch s n)]
theorem sch_length (s : ByteArray) : ∀ n, (sch s n).length = 16 + n
  | 0 => words_length s 16
  | n + 1 => by rw [sch, List.length_append, sch_length s n]; rfl
theorem RowU.cellD {w : World} {g e : Nat} {l r : List UInt32} (h : RowU w g e (l ++ r)) {k : Nat} (hk : k < l.length) : w.cell? ⟨g, k, none⟩ = some (U (l.getD k 0)) := by
  rw [h.cell (k := k) (by simp; omega), List.getElem_append_left hk]
  simp [hk]
theorem cell_other {w : World} {g k m : Nat} {v : Value} (h : m ≠ k) : (w.setCell ⟨g, k, none⟩ v).drew.cell? ⟨g, m, none⟩ = w.cell? ⟨g, m, none⟩ := by
  show (w.setCell ⟨g, k, none⟩ v).cell? ⟨g, m, none⟩ = _
  exact World.cell?_setCell_other w _ _ v (by intro e; injection e with _ e _; exact h e.symm)
theorem cell_lt {w : World} {x : Addr} {v : Value} (h : w.cell? x = some v) : x.block < w.heap.size := by
  refine Nat.lt_of_not_le fun hle => ?_
  simp [World.cell?, Array.getElem?_eq_none hle] at h
structure R8 where
  (a b c d e f g h : UInt32)
def R8.list (r : R8) : List UInt32 := [r.a, r.b, r.c, r.d, r.e, r.f, r.g, r.h]
def R8.at (r : R8) (k : Nat) : UInt32 := r.list.getD k 0
structure StAt (w : World) (g : Nat) (r : R8) : Prop where
  c0 : w.cell? ⟨g, 0, none⟩ = some (.int .i64 (r.a.toNat : Int))
  c1 : w.cell? ⟨g, 1, none⟩ = some (.int .i64 (r.b.toNat : Int))
  c2 : w.cell? ⟨g, 2, none⟩ = some (.int .i64 (r.c.toNat : Int))
  c3 : w.cell? ⟨g, 3, none⟩ = some (.int .i64 (r.d.toNat : Int))
  c4 : w.cell? ⟨g, 4, none⟩ = some (.int .i64 (r.e.toNat : Int))
  c5 : w.cell? ⟨g, 5, none⟩ = some (.int .i64 (r.f.toNat : Int))
  c6 : w.cell? ⟨g, 6, none⟩ = some (.int .i64 (r.g.toNat : Int))
  c7 : w.cell? ⟨g, 7, none⟩ = some (.int .i64 (r.h.toNat : Int))
  fz : ∀ k, k < 8 → w.frozen? ⟨g, k, none⟩ = false
theorem StAt.later {w w' : World} {g B : Nat} {r : R8} (h : StAt w g r) (hb : Below B w w') (hl : g < B) : StAt w' g r :=
  ⟨(hb.cell hl).trans h.c0, (hb.cell hl).trans h.c1, (hb.cell hl).trans h.c2, (hb.cell hl).trans h.c3, (hb.cell hl).trans h.c4, (hb.cell hl).trans h.c5, (hb.cell hl).trans h.c6, (hb.cell hl).trans h.c7, fun k hk => (hb.frozen (p := ⟨g, k, none⟩) hl).trans (h.fz k hk)⟩
theorem StAt.lt {w : World} {g : Nat} {r : R8} (h : StAt w g r) : g < w.heap.size := cell_lt h.c0
theorem StAt.at {w : World} {g : Nat} {r : R8} (h : StAt w g r) {k : Nat} (hk : k < 8) : w.cell? ⟨g, k, none⟩ = some (.int .i64 ((r.at k).toNat : Int)) := by
  match k, hk with
  | 0, _ => exact h.c0
  | 1, _ => exact h.c1
  | 2, _ => exact h.c2
  | 3, _ => exact h.c3
  | 4, _ => exact h.c4
  | 5, _ => exact h.c5
  | 6, _ => exact h.c6
  | 7, _ => exact h.c7
def is (l : List UInt32) : List Value := l.map fun x => .int .i64 (x.toNat : Int)
theorem is_length (l : List UInt32) : (is l).length = l.length := by simp [is]
theorem StAt.of {w : World} {base e g cap : Nat} {r : R8} (h : w.ownsRow base e 1 (.slice (some ⟨g, 0, none⟩) 8 cap) 8 (is r.list)) : StAt w g r := by
  have hc : ∀ k, k < 8 → ∀ v, (is r.list)[k]? = some v → w.cell? ⟨g, k, none⟩ = some v := fun k _ v hv => by
    have := h.cells (g := g) rfl k v hv
    have he : (⟨g, 0, none⟩ : Addr).add k = ⟨g, k, none⟩ := by unfold Addr.add; split <;> simp_all
    rw [he] at this
    exact this
  exact ⟨hc 0 (by omega) _ rfl, hc 1 (by omega) _ rfl, hc 2 (by omega) _ rfl, hc 3 (by omega) _ rfl, hc 4 (by omega) _ rfl, hc 5 (by omega) _ rfl, hc 6 (by omega) _ rfl, hc 7 (by omega) _ rfl, fun k _ => h.frozenAt k⟩
theorem Tryd.infoI64 : (Tryd.prog.info? 2).map (fun i => (i.zero, i.size, i.bytes)) = some (some (.int .i64 0), 1, 8) := by kernel_rfl
/- One number of 64 bits more, at a step of a region that draws its order. -/
theorem step_append_i64 {P : Program} {W : World} {ops : Array Oper} {o : Oper} {a : Act} {K : Act → World → Prop} {Q : Exit → Act → World → Prop} {E : Prop} (hgd : o.guard = none) (s x : Operand) (t : TypeId)
    (ho : o.op = .call { callee := .builtin .append, args := #[s, x], argTypes := #[t, t] })
    (base : Nat) (e : TypeId) (ht : P.underlying t = some (.slice e)) (hinfo : (P.info? e).map (fun i => (i.zero, i.size, i.bytes)) = some (some (.int .i64 0), 1, 8))
    (v : Value) (l : List UInt32) (n : Nat) (hs : a.eval s = v) (hown : W.ownsRow base e 1 v n (is l)) (y : UInt32) (B c : Nat) (hx : a.eval x = .slice (some ⟨B, 0, none⟩) 1 c)
    (hblk : ∃ fr, W.heap[B]? = some (.cells #[.int .i64 (y.toNat : Int)] e fr)) (hn : n ≤ 1000000000) (hbase : base ≤ W.heap.size)
    (h : ∀ v' w', w'.ownsRow base e 1 v' (n + 1) (is (l ++ [y])) → Below base W w' → K (a.put o.dst v') w') :
    if Region.wanted o (yielded ops a.tmps) = true then Oper.wp P o a W K Q else E := by
  obtain ⟨i0, hi, hz0, hz1, hz2⟩ := info_parts hinfo
  obtain ⟨fr, hblk⟩ := hblk
  refine step_append_lies W hgd s x t ho base e i0 (.int .i64 0) 1 8 ht hi hz0 hz1 hz2 rfl (by decide) v n (is l) hs hown ⟨B, 0, none⟩ 1 c (is [y]) hx rfl
    (World.news_of_block hblk) (by intro u hu; unfold is at hu; obtain ⟨b, _, rfl⟩ := List.mem_map.1 hu; rfl) (by omega) (by unfold maxLen; omega) (by omega) hbase _ rfl ?_
  intro g cap w' h1 h2 _ _
  refine h _ w' (by simpa [is] using h1) ?_
  exact (Below.refl base W).grown h2 hbase (fun k hk => (hown.lt k hk).1)
theorem one_new {wr : World} {t : TypeId} {x : UInt32} {z : Int} (h : (x.toNat : Int) = z) : ∃ fr, (wr.alloc (.cells #[.int .i64 z] t)).drew.heap[wr.heap.size]? = some (.cells #[.int .i64 (x.toNat : Int)] t fr) := by
  subst h
  exact ⟨(0, 0), heap_alloc_new wr _⟩
def outs (r q : R8) (k : Nat) : List UInt32 := (List.range k).map fun i => r.at i + q.at i
theorem outs_succ (r q : R8) (k : Nat) : outs r q (k + 1) = outs r q k ++ [r.at k + q.at k] := by
  unfold outs; rw [List.range_succ, List.map_append]; rfl
def R8.add (r q : R8) : R8 := ⟨r.a + q.a, r.b + q.b, r.c + q.c, r.d + q.d, r.e + q.e, r.f + q.f, r.g + q.g, r.h + q.h⟩
theorem outs_all (r q : R8) : outs r q 8 = (r.add q).list := rfl
theorem RowU.drewN {w : World} {g e : Nat} {l : List UInt32} (h : RowU w g e l) (n : Nat) : RowU (w.drewN n) g e l := h
theorem run_byte {P : Program} (t t5 t41 : TypeId) (s : ByteArray) (k : Nat) (h : P.underlying t = some .string) (hk : k < s.size) :
    ∃ z : Int, 0 ≤ z ∧ z < 256 ∧ UInt32.ofNat z.toNat = b32 s k ∧ ∀ w, (Instr.index t (.string s) (.int .i64 (k : Int))).run P w = .ok (.int .u8 z) w := by
  refine ⟨(s[k].toNat : Int), by omega, by have := s[k].toNat_lt; omega, ?_, fun w => ?_⟩
  · unfold b32
    rw [getElem?_pos s k hk]
    simp
  · rw [run_index_string (P := P) w t s .i64 k h, dif_pos ⟨by omega, by omega⟩]
    simp

def rnd (r : R8) (k w : UInt32) : R8 :=
  let t1 := r.h + (rot r.e 6 ^^^ rot r.e 11 ^^^ rot r.e 25) + (r.e &&& r.f ^^^ ~~~r.e &&& r.g) + k + w
  let t2 := (rot r.a 2 ^^^ rot r.a 13 ^^^ rot r.a 22) + (r.a &&& r.b ^^^ r.a &&& r.c ^^^ r.b &&& r.c)
  ⟨t1 + t2, r.a, r.b, r.c, r.d + t1, r.e, r.f, r.g⟩
def rnds (s : ByteArray) (r : R8) : Nat → R8
  | 0 => r
  | n + 1 => rnd (rnds s r n) (keys.getD n 0) ((sch s 48).getD n 0)
theorem fill8 (a b c d e f g h : UInt32) (cells : Array Value) (hc : cells.size = 8) : Instr.fill (fun i => some (i * 1, 1)) cells [(0, U a), (1, U b), (2, U c), (3, U d), (4, U e), (5, U f), (6, U g), (7, U h)] = some #[U a, U b, U c, U d, U e, U f, U g, U h] :=
  Great.fill_flat [U a, U b, U c, U d, U e, U f, U g, U h] cells (fun v hv => by simp at hv; rcases hv with h | h | h | h | h | h | h | h <;> (rw [h]; rfl)) (by rw [hc]; rfl)
theorem wpList_build8 {ops : Array Oper} {rest : List Oper} {o : Oper} {a : Act} {w : World} {Q : Exit → Act → World → Prop} (hg : o.guard = none) (x0 x1 x2 x3 x4 x5 x6 x7 : Operand)
    (ho : o.op = .buildSlice 138 8 #[(0, x0), (1, x1), (2, x2), (3, x3), (4, x4), (5, x5), (6, x6), (7, x7)]) (v0 v1 v2 v3 v4 v5 v6 v7 : UInt32)
    (e0 : a.eval x0 = U v0) (e1 : a.eval x1 = U v1) (e2 : a.eval x2 = U v2) (e3 : a.eval x3 = U v3) (e4 : a.eval x4 = U v4) (e5 : a.eval x5 = U v5) (e6 : a.eval x6 = U v6) (e7 : a.eval x7 = U v7)
    (h : wpList Tryd.prog ops Q rest (a.put o.dst (.slice (some ⟨w.heap.size, 0, none⟩) 8 8)) (w.alloc (.cells #[U v0, U v1, U v2, U v3, U v4, U v5, U v6, U v7] 127))) : wpList Tryd.prog ops Q (o :: rest) a w := by
  obtain ⟨i0, hi, hz0, hz1, hz2⟩ := info_parts Tryd.infoU32
  refine wpList_buildSlice hg 138 127 8 _ ho _ i0 (.int .u32 0) Tryd.underlying138 hi hz0 (by rw [hz1]; omega) (by rw [hz1]; omega) ?_ h
  rw [hz1]
  simp only [List.map_toArray, List.map, e0, e1, e2, e3, e4, e5, e6, e7]
  exact fill8 v0 v1 v2 v3 v4 v5 v6 v7 _ (by simp)
def blk (r : R8) (s : ByteArray) : R8 := r.add (rnds s r 64)

set_option maxRecDepth 100000 in
set_option maxHeartbeats 4000000 in
theorem block_any (g cap : Nat) (r0 : R8) (s : ByteArray) (w : World) (hs : s.size = 64) (hst : StAt w g r0) :
    Calls Tryd.prog 67 #[.slice (some ⟨g, 0, none⟩) 8 cap, .string s] w fun e w' => ∃ g' cap', e = .returned (.slice (some ⟨g', 0, none⟩) 8 cap') ∧ w.heap.size ≤ g' ∧ StAt w' g' (blk r0 s) ∧ Below w.heap.size w w' := by
  have HST : Hid (StAt w g r0) := hst
  clear hst
  obtain ⟨i0, hi, hz0, hz1, hz2⟩ := info_parts Tryd.infoU32
  go_enter Tryd.func67, Tryd.ntmps67
  go_wp2_with (first
    | (at_make; refine wpList_make_full _ rfl _ _ 138 rfl w.heap.size 127 i0 (.int .u32 0) 1 Tryd.underlying138 hi hz0 hz1 _ _ _ _ 64 rfl rfl (by omega) (by omega) (by rw [hz2]; omega) (by unfold maxLen; omega) (Nat.le_refl _) ?_))
  intro w1 hown1 hgr1
  have hrow1 := RowU.made hown1 (made_zeroU _)
  have hb1 : Below w.heap.size w w1 := (Below.refl _ _).grown hgr1 (Nat.le_refl _) (fun _ h => by cases h)
  have HR1 : Hid (RowU w1 w.heap.size 127 (words s 0 ++ List.replicate (64 - 0) 0)) := hrow1
  clear hown1 hgr1 hrow1 hi hz0 hz1 hz2
  go_wp2_with fail
  go_loopw [6] (fun i wr => ∃ (k : Nat), i = .int .i64 k ∧ k ≤ 16 ∧ RowU wr w.heap.size 127 (words s k ++ List.replicate (64 - k) 0) ∧ Below w.heap.size w wr)
    (fun i _ => 16 - (intOf i).toNat)
  case atStart => exact ⟨0, rfl, Nat.zero_le _, HR1.out, hb1⟩
  case round =>
   as_aux_lemma =>
    obtain ⟨k, rfl, hk, hrow, hnx⟩ := hrel
    have HRow : Hid (RowU wr w.heap.size 127 (words s k ++ List.replicate (64 - k) 0)) := hrow
    have hsz := hnx.size
    clear hrow HR1 hb1
    by_cases hlt : k < 16
    · as_aux_lemma =>
      obtain ⟨z0, a0, b0, x0, r0⟩ := run_byte (P := Tryd.prog) 9 0 0 s (4 * k) Tryd.underlying9 (by omega)
      obtain ⟨z1, a1, b1, x1, r1⟩ := run_byte (P := Tryd.prog) 9 0 0 s (4 * k + 1) Tryd.underlying9 (by omega)
      obtain ⟨z2, a2, b2, x2, r2⟩ := run_byte (P := Tryd.prog) 9 0 0 s (4 * k + 2) Tryd.underlying9 (by omega)
      obtain ⟨z3, a3, b3, x3, r3⟩ := run_byte (P := Tryd.prog) 9 0 0 s (4 * k + 3) Tryd.underlying9 (by omega)
      have q0 := fun w0 => U_of_u8 (P := Tryd.prog) w0 5 127 z0 a0 b0 Tryd.underlying5 Tryd.underlying127
      have q1 := fun w0 => U_of_u8 (P := Tryd.prog) w0 5 127 z1 a1 b1 Tryd.underlying5 Tryd.underlying127
      have q2 := fun w0 => U_of_u8 (P := Tryd.prog) w0 5 127 z2 a2 b2 Tryd.underlying5 Tryd.underlying127
      have q3 := fun w0 => U_of_u8 (P := Tryd.prog) w0 5 127 z3 a3 b3 Tryd.underlying5 Tryd.underlying127
      rw [x0] at q0
      rw [x1] at q1
      rw [x2] at q2
      rw [x3] at q3
      clear x0 x1 x2 x3
      obtain ⟨m, hm⟩ : ∃ m : Nat, m = 4 * k := ⟨_, rfl⟩
      rw [← hm] at r0 r1 r2 r3
      have e0 : IntKind.i64.wrap (4 * (k : Int)) = (m : Int) := by rw [hm]; simp [IntKind.wrap, IntKind.signed, IntKind.bits]; omega
      have e1 : IntKind.i64.wrap ((m : Int) + 1) = ((m + 1 : Nat) : Int) := by simp [IntKind.wrap, IntKind.signed, IntKind.bits]; omega
      have e2 : IntKind.i64.wrap ((m : Int) + 2) = ((m + 2 : Nat) : Int) := by simp [IntKind.wrap, IntKind.signed, IntKind.bits]; omega
      have e3 : IntKind.i64.wrap ((m : Int) + 3) = ((m + 3 : Nat) : Int) := by simp [IntKind.wrap, IntKind.signed, IntKind.bits]; omega
      obtain ⟨m1, hm1⟩ : ∃ m1 : Nat, m1 = m + 1 := ⟨_, rfl⟩
      obtain ⟨m2, hm2⟩ : ∃ m1 : Nat, m1 = m + 2 := ⟨_, rfl⟩
      obtain ⟨m3, hm3⟩ : ∃ m1 : Nat, m1 = m + 3 := ⟨_, rfl⟩
      rw [← hm1] at r1 e1
      rw [← hm2] at r2 e2
      rw [← hm3] at r3 e3
      have HM : Hid (m = 4 * k) := hm
      have HM1 : Hid (m1 = m + 1) := hm1
      have HM2 : Hid (m2 = m + 2) := hm2
      have HM3 : Hid (m3 = m + 3) := hm3
      clear hm hm1 hm2 hm3
      have hc : wr.cell? ⟨w.heap.size, k, none⟩ = some (U 0) := (HRow.out.cell (k := k) (by simp [words]; omega)).trans (by simp [words])
      have hfz := HRow.out.frozen k
      have hcl : ∀ x : UInt32, (U x).cells = #[U x] := fun _ => rfl
      unfold Value.cells at hcl
      have k0 : (0 : Int) ≤ (k : Int) := by omega
      have k1 : (k : Int) < 64 := by omega
      go_wp2_with fail
      go_region
      clear r0 r1 r2 r3 q0 q1 q2 q3 e0 e1 e2 e3 hc hfz hcl
      have HRow2 : Hid (RowU (wr.setCell ⟨w.heap.size, k, none⟩ (U (wordAt s k))).drew w.heap.size 127 (words s (k + 1) ++ List.replicate (64 - (k + 1)) 0)) :=
        (HRow.out.set k (by rw [words_succ]; exact set_next (words_length s k) (by omega))).drew
      have HB2 : Hid (Below w.heap.size w (wr.setCell ⟨w.heap.size, k, none⟩ (U (wordAt s k))).drew) := (hnx.setCell (Nat.le_refl _) _).drew
      have HE : Hid (U (wordAt s k) = U (sl (b32 s (4 * k)) 24 ||| sl (b32 s (4 * k + 1)) 16 ||| sl (b32 s (4 * k + 2)) 8 ||| b32 s (4 * k + 3))) := rfl
      rw [← HE.out]
      generalize (wr.setCell ⟨w.heap.size, k, none⟩ (U (wordAt s k))).drew = w2 at *
      generalize U (wordAt s k) = uu at *
      go_wp2
      go_roundw
      case rel => exact ⟨k + 1, by go_num, hlt, HRow2.out, HB2.out⟩
      case measure => simp [intOf]; omega
    · obtain rfl : k = 16 := by omega
      have HR2 : Hid (RowU wr w.heap.size 127 (sch s 0 ++ List.replicate (64 - (16 + 0)) 0)) := HRow.out
      have HB2 : Hid (Below w.heap.size w wr) := hnx
      clear HRow hnx
      rw [show ((16 : Nat) : Int) = 16 from rfl]
      go_wp2_with fail
      go_loopw [7, 8, 9] (fun i _ _ wr => ∃ (n : Nat), i = .int .i64 ((16 + n : Nat) : Int) ∧ n ≤ 48 ∧ RowU wr w.heap.size 127 (sch s n ++ List.replicate (64 - (16 + n)) 0) ∧ Below w.heap.size w wr)
        (fun i _ _ _ => 64 - (intOf i).toNat)
      case atStart => exact ⟨0, rfl, Nat.zero_le _, HR2.out, HB2.out⟩
      case round =>
       as_aux_lemma =>
        clear HR2 HB2
        obtain ⟨n, rfl, hn, hrow, hnx⟩ := hrel
        have hlen := sch_length s n
        obtain ⟨k, hkn⟩ : ∃ k : Nat, 16 + n = k := ⟨_, rfl⟩
        rw [hkn] at hrow hlen ⊢
        have HRow : Hid (RowU wr w.heap.size 127 (sch s n ++ List.replicate (64 - k) 0)) := hrow
        have hsz := hnx.size
        have HKN : Hid (16 + n = k) := hkn
        by_cases hlt : k < 64
        · as_aux_lemma =>
          have d15 := HRow.out.cellD (k := k - 15) (by omega)
          have d2 := HRow.out.cellD (k := k - 2) (by omega)
          have d16 := HRow.out.cellD (k := k - 16) (by omega)
          have d7 := HRow.out.cellD (k := k - 7) (by omega)
          have hc : wr.cell? ⟨w.heap.size, k, none⟩ = some (U 0) := (HRow.out.cell (k := k) (by simp; omega)).trans (by rw [List.getElem_append_right (by omega)]; simp)
          have hfz := HRow.out.frozen k
          have HX : Hid (nxt (sch s n) = (sch s n).getD (k - 16) 0 + (rot ((sch s n).getD (k - 15) 0) 7 ^^^ rot ((sch s n).getD (k - 15) 0) 18 ^^^ sr ((sch s n).getD (k - 15) 0) 3) + (sch s n).getD (k - 7) 0 + (rot ((sch s n).getD (k - 2) 0) 17 ^^^ rot ((sch s n).getD (k - 2) 0) 19 ^^^ sr ((sch s n).getD (k - 2) 0) 10)) := by
            show nxt (sch s n) = _
            unfold nxt
            rw [hlen]
          obtain ⟨m15, f15⟩ : ∃ m : Nat, k - 15 = m := ⟨_, rfl⟩
          obtain ⟨m2, f2⟩ : ∃ m : Nat, k - 2 = m := ⟨_, rfl⟩
          obtain ⟨m16, f16⟩ : ∃ m : Nat, k - 16 = m := ⟨_, rfl⟩
          obtain ⟨m7, f7⟩ : ∃ m : Nat, k - 7 = m := ⟨_, rfl⟩
          rw [f15] at d15 HX
          rw [f2] at d2 HX
          rw [f16] at d16 HX
          rw [f7] at d7 HX
          have e15 : (k : Int) - 15 = (m15 : Int) := by omega
          have e2 : (k : Int) - 2 = (m2 : Int) := by omega
          have e16 : IntKind.i64.wrap ((k : Int) - 16) = (m16 : Int) := by simp [IntKind.wrap, IntKind.signed, IntKind.bits]; omega
          have e7 : IntKind.i64.wrap ((k : Int) - 7) = (m7 : Int) := by simp [IntKind.wrap, IntKind.signed, IntKind.bits]; omega
          have l15 : (m15 : Int) < 64 := by omega
          have l2 : (m2 : Int) < 64 := by omega
          have l16 : (m16 : Int) < 64 := by omega
          have l7 : (m7 : Int) < 64 := by omega
          have lk : (k : Int) < 64 := by omega
          have HSX : Hid (RowU wr w.heap.size 127 (sch s n ++ List.replicate (64 - k) 0) → RowU (wr.setCell ⟨w.heap.size, k, none⟩ (U (nxt (sch s n)))).drew w.heap.size 127 (sch s (n + 1) ++ List.replicate (64 - (k + 1)) 0)) := fun h =>
            (h.set k (by rw [sch]; exact set_next hlen hlt)).drew
          generalize nxt (sch s n) = nx at *
          generalize (sch s n).getD m15 0 = x at *
          generalize (sch s n).getD m2 0 = y at *
          generalize (sch s n).getD m16 0 = v16 at *
          generalize (sch s n).getD m7 0 = v7 at *
          have HRow2 : Hid (RowU (wr.setCell ⟨w.heap.size, k, none⟩ (U nx)).drew w.heap.size 127 (sch s (n + 1) ++ List.replicate (64 - (k + 1)) 0)) := HSX.out HRow.out
          have hcl : ∀ x : UInt32, (U x).cells = #[U x] := fun _ => rfl
          unfold Value.cells at hcl
          have K16 : Hid (∀ v, (wr.setCell ⟨w.heap.size, k, none⟩ v).drew.cell? ⟨w.heap.size, m16, none⟩ = some (U v16)) := fun v => (cell_other (by omega)).trans d16
          have K7 : Hid (∀ v, (wr.setCell ⟨w.heap.size, k, none⟩ v).drew.cell? ⟨w.heap.size, m7, none⟩ = some (U v7)) := fun v => (cell_other (by omega)).trans d7
          clear f15 f2 f16 f7 hrow HSX hkn hlen HRow
          go_wp2_with fail
          go_region_held3 (fun w' => w'.cell? ⟨w.heap.size, m16, none⟩ = some (U v16) ∧ w'.cell? ⟨w.heap.size, m7, none⟩ = some (U v7)) (first | exact ⟨d16, d7⟩ | exact ⟨K16.out _, K7.out _⟩)
            (first | (go_at_call 96; refine (turn_any _ _ _ (by omega) (by omega)).mono ?_; rintro e w' ⟨rfl, rfl⟩))
          have HB2 : Hid (Below w.heap.size w (wr.setCell ⟨w.heap.size, k, none⟩ (U nx)).drew) := (hnx.setCell (Nat.le_refl _) _).drew
          rw [← HX.out]
          generalize (wr.setCell ⟨w.heap.size, k, none⟩ (U nx)).drew = w2 at *
          clear hc hfz d15 d2 d16 d7 hcl e15 e2 e16 e7 K16 K7 HX
          go_wp2
          go_roundw
          case rel => exact ⟨n + 1, by have := HKN.out; go_num, by have := HKN.out; omega, by rw [show 16 + (n + 1) = k + 1 by have := HKN.out; omega]; exact HRow2.out, HB2.out⟩
          case measure => simp [intOf]; omega
        · obtain rfl : n = 48 := by have := HKN.out; omega
          obtain rfl : k = 64 := by have := HKN.out; omega
          have HR3 : Hid (RowU wr w.heap.size 127 (sch s 48)) := by have := HRow.out; rw [Nat.sub_self, List.replicate_zero, List.append_nil] at this; exact this
          have HB3 : Hid (Below w.heap.size w wr) := hnx
          have HC : Hid (StAt wr g r0) := HST.out.later hnx HST.out.lt
          obtain ⟨g0, g1, g2, g3, g4, g5, g6, g7⟩ := HC.out
          have hconv := fun (w0 : World) (x : UInt32) => U_of_i64 (P := Tryd.prog) w0 2 127 x Tryd.underlying2 Tryd.underlying127
          rw [show ((64 : Nat) : Int) = 64 from rfl]
          clear HRow hrow hnx hsz HC
          go_wp2_with fail
          go_quiet (fail)
          go_wp2_with fail
          go_quiet (fail)
          go_wp2_with fail
          refine (keys_any _).mono ?_
          rintro e w6 ⟨rfl, h1, h2⟩
          have hz3 := HB3.out.size
          have hzw : w.heap.size < wr.heap.size := cell_lt (HR3.out.cell (k := 0) (by rw [sch_length]; omega))
          have HK6 : Hid (RowU w6 wr.heap.size 127 keys) := h1
          have HR6 : Hid (RowU w6 w.heap.size 127 (sch s 48)) := (HR3.out.drewN _).below h2 hzw
          have HB6 : Hid (Below w.heap.size w w6) := (below_drewN HB3.out _).trans (h2.mono hz3)
          simp only [World.heap_drewN]
          clear h1 h2 HR3 HB3 g0 g1 g2 g3 g4 g5 g6 g7 hconv
          generalize wr.heap.size = gk at *
          go_wp2_with fail
          go_loopw [10, 11, 12, 13, 14, 15, 16, 17, 19, 20, 21] (fun va vb vc vd ve vf vg vh i _ _ wr => ∃ (n : Nat) (r : R8), i = .int .i64 (n : Int) ∧ n ≤ 64 ∧ r = rnds s r0 n ∧ va = U r.a ∧ vb = U r.b ∧ vc = U r.c ∧ vd = U r.d ∧ ve = U r.e ∧ vf = U r.f ∧ vg = U r.g ∧ vh = U r.h ∧ RowU wr gk 127 keys ∧ RowU wr w.heap.size 127 (sch s 48) ∧ Below w.heap.size w wr)
            (fun _ _ _ _ _ _ _ _ i _ _ _ => 64 - (intOf i).toNat)
          case atStart => exact ⟨0, _, rfl, Nat.zero_le _, rfl, rfl, rfl, rfl, rfl, rfl, rfl, rfl, rfl, HK6.out, HR6.out, HB6.out⟩
          case round =>
           as_aux_lemma =>
            clear HK6 HR6 HB6
            obtain ⟨n, r, rfl, hn, hr, rfl, rfl, rfl, rfl, rfl, rfl, rfl, rfl, hk6, hr6, hb6⟩ := hrel
            have HR : Hid (r = rnds s r0 n) := hr
            have HK6 : Hid (RowU wr gk 127 keys) := hk6
            have HR6 : Hid (RowU wr w.heap.size 127 (sch s 48)) := hr6
            have HB6 : Hid (Below w.heap.size w wr) := hb6
            clear hr hk6 hr6 hb6
            obtain ⟨a, b, c, d, e, f, g', h⟩ := r
            dsimp only
            by_cases hlt : n < 64
            · as_aux_lemma =>
              have dk := HK6.out.cell (k := n) (by rw [keys_length]; exact hlt)
              have dw := HR6.out.cell (k := n) (by rw [sch_length]; omega)
              have HE : Hid (keys.getD n 0 = keys[n]'(by rw [keys_length]; exact hlt) ∧ (sch s 48).getD n 0 = (sch s 48)[n]'(by rw [sch_length]; omega)) := ⟨by simp [keys_length, hlt], by simp [sch_length, hlt]⟩
              generalize keys[n]'(by rw [keys_length]; exact hlt) = kk at *
              generalize (sch s 48)[n]'(by rw [sch_length]; omega) = ww at *
              have ln : (n : Int) < 64 := by omega
              go_wp2_with fail
              go_quiet (first | (go_at_call 96; exact Calls.quiet_of_same (turn_any _ _ _ (by omega) (by omega))))
              go_wp2_with (first | (go_at_call 96; refine (turn_any _ _ _ (by omega) (by omega)).mono ?_; rintro e w' ⟨rfl, rfl⟩))
              go_roundw
              case rel => exact ⟨n + 1, rnd ⟨a, b, c, d, e, f, g', h⟩ kk ww, by go_num, hlt, by rw [rnds, ← HR.out, HE.out.1, HE.out.2], rfl, rfl, rfl, rfl, rfl, rfl, rfl, rfl, HK6.out.drewN _, HR6.out.drewN _, below_drewN HB6.out _⟩
              case measure => simp [intOf]; omega
            · as_aux_lemma =>
              obtain rfl : n = 64 := by omega
              have hz := HB6.out.size
              have hgl := HST.out.lt
              have HVN : Hid (RowU (wr.alloc (.cells #[U a, U b, U c, U d, U e, U f, U g', U h] 127)) wr.heap.size 127 [a, b, c, d, e, f, g', h]) := by
                show RowU _ _ _ _
                unfold RowU
                simp only [World.alloc, Array.getElem?_push_size]
                rfl
              have HQ : Hid ([a, b, c, d, e, f, g', h] = (rnds s r0 64).list) := by rw [← HR.out]; exact rfl
              have HBV : Hid (Below w.heap.size w (wr.alloc (.cells #[U a, U b, U c, U d, U e, U f, U g', U h] 127))) := HB6.out.alloc hz _
              have HSV : Hid ((wr.alloc (.cells #[U a, U b, U c, U d, U e, U f, U g', U h] 127)).heap.size = wr.heap.size + 1) := Array.size_push _
              rw [HQ.out] at HVN
              clear HR HK6 HR6 HB6
              go_wp2_with (first | (refine wpList_build8 rfl _ _ _ _ _ _ _ _ (by rfl) a b c d e f g' h (by rfl) (by rfl) (by rfl) (by rfl) (by rfl) (by rfl) (by rfl) (by rfl) ?_))
              generalize wr.alloc (.cells #[U a, U b, U c, U d, U e, U f, U g', U h] 127) = wv at *
              have hsv := HSV.out
              obtain ⟨q, hq⟩ : ∃ q, rnds s r0 64 = q := ⟨_, rfl⟩
              have HQ2 : Hid (rnds s r0 64 = q) := hq
              rw [hq] at HVN
              clear hq HQ HSV
              generalize wr.heap.size = gv at *
              have HOV : Hid ((wv.alloc (.cells #[] 2)).ownsRow (gv + 1) 2 1 (.slice (some ⟨gv + 1, 0, none⟩) 0 0) 0 (is (outs r0 q 0))) := by
                rw [← hsv]
                exact World.ownsRow_made wv #[] 0 (Nat.le_refl _) (Nat.zero_le _) rfl
              go_loopw [23, 24] (fun v i wx => ∃ (k : Nat), i = .int .i64 k ∧ k ≤ 8 ∧ wx.ownsRow (gv + 1) 2 1 v k (is (outs r0 q k)) ∧ Below (gv + 1) wv wx)
                (fun _ i _ => 8 - (intOf i).toNat)
              case atStart => exact ⟨0, rfl, Nat.zero_le _, HOV.out, (Below.refl _ _).alloc (Nat.le_of_eq hsv.symm) _⟩
              case round =>
               as_aux_lemma =>
                clear HOV
                obtain ⟨k, rfl, hk, hown, hb⟩ := hrel
                have HR4 := HVN.out.below hb (by omega)
                have HB4 : Hid (Below w.heap.size w wr) := HBV.out.trans (hb.mono (by omega))
                have HS4 := HST.out.later HB4.out hgl
                have hzx := hb.size
                by_cases hlt : k < 8
                · as_aux_lemma =>
                  have dS := HS4.at hlt
                  have dV := HR4.cell (k := k) hlt
                  have e0 : q.list[k]'hlt = q.at k := by unfold R8.at; rw [List.getD_eq_getElem?_getD, List.getElem?_eq_getElem hlt]; rfl
                  rw [e0] at dV
                  have HO : Hid (outs r0 q (k + 1) = outs r0 q k ++ [r0.at k + q.at k]) := outs_succ r0 q k
                  generalize r0.at k = x at *
                  generalize q.at k = y at *
                  have c1 := fun (w0 : World) => U_of_i64 (P := Tryd.prog) w0 2 127 x Tryd.underlying2 Tryd.underlying127
                  have c2 := fun (w0 : World) => U_to_i64 (P := Tryd.prog) w0 127 2 (x + y) Tryd.underlying127 Tryd.underlying2
                  obtain ⟨m, hm⟩ : ∃ m : Int, (x.toNat : Int) = m := ⟨_, rfl⟩
                  obtain ⟨z, hz'⟩ : ∃ m : Int, ((x + y).toNat : Int) = m := ⟨_, rfl⟩
                  rw [hm] at dS c1
                  rw [hz'] at c2
                  have HZ : Hid (((x + y).toNat : Int) = z) := hz'
                  have lk : (k : Int) < 8 := by omega
                  have l0 : (0 : Int) ≤ k := by omega
                  have A1 : Hid (∀ o, (wr.alloc o).drew.cell? ⟨g, k, none⟩ = some (.int .i64 m)) := fun o => (((Below.refl (gv + 1) wr).alloc (by omega) o).cell (p := ⟨g, k, none⟩) (by show g < gv + 1; omega)).trans dS
                  have A2 : Hid (∀ o, (wr.alloc o).drew.cell? ⟨gv, k, none⟩ = some (U y)) := fun o => (((Below.refl (gv + 1) wr).alloc (by omega) o).cell (p := ⟨gv, k, none⟩) (by show gv < gv + 1; omega)).trans dV
                  clear HR4 HS4 HVN HBV HST e0 hm hz'
                  go_wp2_with fail
                  go_region_held3 (fun w' => w'.cell? ⟨g, k, none⟩ = some (.int .i64 m) ∧ w'.cell? ⟨gv, k, none⟩ = some (U y)) (first | exact ⟨dS, dV⟩ | exact ⟨A1.out _, A2.out _⟩ | exact ⟨(hb2.cell (p := ⟨g, k, none⟩) (by show g < gv + 1; omega)).trans (A1.out _), (hb2.cell (p := ⟨gv, k, none⟩) (by show gv < gv + 1; omega)).trans (A2.out _)⟩)
                    (first | (refine step_append_i64 rfl _ _ 75 (by rfl) (gv + 1) 2 Tryd.underlying75 Tryd.infoI64 u23 (outs r0 q k) k (by rfl) (by exact hown.alloc _) (x + y) wr.heap.size 1 (by rfl) (by exact one_new HZ.out) (by omega) (by simp; omega) ?_; intro v' w2 hown2 hb2))
                  all_goals
                    clear hown c1 c2 dS dV A1 A2 HZ
                    go_wp2
                    go_roundw
                    case rel => exact ⟨k + 1, by go_num, hlt, by rw [HO.out]; exact hown2, hb.trans (((Below.refl _ _).alloc (by omega) _).drew.trans hb2)⟩
                    case measure => simp [intOf]; omega
                · as_aux_lemma =>
                  obtain rfl : k = 8 := by omega
                  obtain ⟨g2, cap2, rfl, hg2⟩ : ∃ g2 cap2, u23 = .slice (some ⟨g2, 0, none⟩) 8 cap2 ∧ gv + 1 ≤ g2 := by
                    rcases hown.2 with ⟨_, h0⟩ | ⟨g2, cap, cur, hv, hbg, _⟩
                    · omega
                    · exact ⟨g2, cap, hv, hbg⟩
                  have HF : Hid (StAt wr g2 (blk r0 s)) := by
                    show StAt _ _ _
                    rw [blk, HQ2.out]
                    exact StAt.of (e := 2) hown
                  clear hown
                  go_wp2
                  go_ret
                  exact ⟨g2, cap2, rfl, by omega, HF.out, HB4.out⟩
end Go.Proofs.YtchfpiadfmnphaaDoor
