/- What the two Go functions Hex (the specification's and the program's) answer, for every text: one text. -/
import Derived.Test.YtocljgjdllpokaaDoorOwn
import Derived.Deep.RegionHeld3
import Derived.Deep.AppendLies
import Derived.Deep.DrawnRows
import Derived.Deep.RegionLaw
namespace Go.Proofs.YtocljgjdllpokaaDoor
open Go.RowKit
set_option linter.unusedVariables false

def digs : ByteArray := ⟨#[48, 49, 50, 51, 52, 53, 54, 55, 56, 57, 97, 98, 99, 100, 101, 102]⟩
theorem digs_size : digs.size = 16 := by decide +kernel
def hexD (i : Int) : UInt8 := (digs[i.toNat]?).getD 0
theorem run_digit {P : Program} (t : TypeId) (k : IntKind) (i : Int) (h : P.underlying t = some .string) (h0 : 0 ≤ i) (h1 : i < 16) :
    ∀ w, (Instr.index t (.string ⟨#[48, 49, 50, 51, 52, 53, 54, 55, 56, 57, 97, 98, 99, 100, 101, 102]⟩) (.int k i)).run P w = .ok (.int .u8 (hexD i).toNat) w := by
  intro w
  have hi : 0 ≤ i ∧ i < (digs.size : Int) := by rw [digs_size]; omega
  have h2 : i.toNat < digs.size := by rw [digs_size]; omega
  have := run_index_string (P := P) w t digs k i h
  rw [dif_pos hi] at this
  simp only [hexD, ByteArray.getElem?_lt' _ _ h2, Option.getD_some]
  exact this
theorem run_at {P : Program} (t : TypeId) (s : ByteArray) (k : Nat) (c : Int) (h : P.underlying t = some .string) (hk : k < s.size) (hc : (s[k].toNat : Int) = c) :
    ∀ w, (Instr.index t (.string s) (.int .i64 (k : Int))).run P w = .ok (.int .u8 c) w := by
  intro w
  rw [run_index_string (P := P) w t s .i64 k h, dif_pos ⟨by omega, by omega⟩]
  simp [hc]

/- Bytes more, at a step of a region that draws its order. -/
theorem step_append_bytes {P : Program} {W : World} {ops : Array Oper} {o : Oper} {a : Act} {K : Act → World → Prop} {Q : Exit → Act → World → Prop} {E : Prop} (hgd : o.guard = none) (s x : Operand) (t : TypeId)
    (ho : o.op = .call { callee := .builtin .append, args := #[s, x], argTypes := #[t, t] })
    (base : Nat) (e : TypeId) (ht : P.underlying t = some (.slice e)) (hinfo : (P.info? e).map (fun i => (i.zero, i.size, i.bytes)) = some (some (.int .u8 0), 1, 1))
    (v : Value) (bs : List UInt8) (n : Nat) (hs : a.eval s = v) (hown : W.ownsRow base e 1 v n (bvs bs)) (nw : List UInt8) (B m c : Nat) (hm : nw.length = m) (hm0 : 0 < m) (hx : a.eval x = .slice (some ⟨B, 0, none⟩) m c)
    (hblk : ∃ fr, W.heap[B]? = some (.cells (bvs nw).toArray e fr)) (hn : n + m ≤ 1000000000) (hbase : base ≤ W.heap.size)
    (h : ∀ v' w', w'.ownsRow base e 1 v' (n + m) (bvs (bs ++ nw)) → Below base W w' → K (a.put o.dst v') w') :
    if Region.wanted o (yielded ops a.tmps) = true then Oper.wp P o a W K Q else E := by
  obtain ⟨i0, hi, hz0, hz1, hz2⟩ := info_parts hinfo
  obtain ⟨fr, hblk⟩ := hblk
  refine step_append_lies W hgd s x t ho base e i0 (.int .u8 0) 1 1 ht hi hz0 hz1 hz2 rfl (by decide) v n (bvs bs) hs hown ⟨B, 0, none⟩ m c (bvs nw) hx (by rw [bvs_length]; omega)
    (by simpa using World.news_of_block hblk) (by intro u hu; unfold bvs at hu; obtain ⟨b, _, rfl⟩ := List.mem_map.1 hu; rfl) hm0 (by unfold maxLen; omega) (by omega) hbase _ rfl ?_
  intro g cap w' h1 h2 _ _
  refine h _ w' (by simpa [bvs] using h1) ?_
  exact (Below.refl base W).grown h2 hbase (fun k hk => (hown.lt k hk).1)
theorem two_new {wr : World} {t : TypeId} {b1 b2 : UInt8} {x1 x2 : Int} (h1 : (b1.toNat : Int) = x1) (h2 : (b2.toNat : Int) = x2) : ∃ fr, (wr.alloc (.cells #[.int .u8 x1, .int .u8 x2] t)).drew.heap[wr.heap.size]? = some (.cells (bvs [b1, b2]).toArray t fr) := by
  subst h1 h2
  exact ⟨(0, 0), heap_alloc_new wr _⟩
theorem div_u8 {c : Int} (h0 : 0 ≤ c) (h1 : c ≤ 255) : IntKind.u8.wrap (c.tdiv 16) = c / 16 := by
  rw [Int.tdiv_eq_ediv_of_nonneg h0]
  simp [IntKind.wrap, IntKind.signed, IntKind.bits]
  omega
/- The digits of the first bytes. -/
def hexL (l : List UInt8) : List UInt8 := l.flatMap fun b => [hexD ((b.toNat : Int) / 16), hexD ((b.toNat : Int) % 16)]
def HexTo (s : ByteArray) (k : Nat) (bs : List UInt8) : Prop := bs = hexL (s.data.toList.take k)
def hexS (s : ByteArray) : ByteArray := if 20000 < s.size then ⟨#[]⟩ else ⟨(hexL s.data.toList).toArray⟩
theorem take_snoc (s : ByteArray) (k : Nat) (h : k < s.size) : s.data.toList.take (k + 1) = s.data.toList.take k ++ [s[k]] := by
  rw [List.take_succ_eq_append_getElem (by simpa using h)]; rfl
theorem HexTo.start (s : ByteArray) : HexTo s 0 [] := rfl
theorem HexTo.step {s : ByteArray} {k : Nat} {bs : List UInt8} {c q r : Int} (h : HexTo s k bs) (hlt : k < s.size) (hc : (s[k].toNat : Int) = c) (hq : q = c / 16) (hr : r = c % 16) : HexTo s (k + 1) (bs ++ [hexD q, hexD r]) := by
  unfold HexTo at *
  subst hq hr
  rw [take_snoc s k hlt, h, ← hc]
  simp [hexL]
theorem HexTo.done {s : ByteArray} {bs : List UInt8} (h : HexTo s s.size bs) (hs : ¬ 20000 < s.size) : (⟨bs.toArray⟩ : ByteArray) = hexS s := by
  unfold HexTo at h
  rw [List.take_of_length_le (by simp)] at h
  unfold hexS
  rw [if_neg hs, h]
theorem hexS_big {s : ByteArray} (hs : 20000 < s.size) : hexS s = ⟨#[]⟩ := by unfold hexS; rw [if_pos hs]
attribute [local go_sem ↓] Go.wp_at_zero Go.wp_at_succ

set_option maxRecDepth 100000 in
set_option maxHeartbeats 1000000 in
theorem specHex (s : ByteArray) (w : World) (hs : s.size ≤ maxLen) :
    Calls Tryd.prog 35 #[.string s] w fun e w' => e = .returned (.string (hexS s)) ∧ Below w.heap.size w w' := by
  unfold maxLen at hs
  by_cases hbig : 20000 < s.size
  · have HR : Hid (hexS s = ⟨#[]⟩) := hexS_big hbig
    go_enter Tryd.func35, Tryd.ntmps35
    go_wp2_with fail
    go_ret
    exact ⟨ret_str HR.out.symm, Below.refl _ _⟩
  go_enter Tryd.func35, Tryd.ntmps35
  go_wp2_with fail
  go_loopw [3, 4] (fun v i wr => ∃ (bs : List UInt8) (k : Nat), i = .int .i64 k ∧ k ≤ s.size ∧ HexTo s k bs ∧ wr.ownsRow w.heap.size 5 1 v (2 * k) (bvs bs) ∧ Below w.heap.size w wr)
    (fun _ i _ => s.size - (intOf i).toNat)
  case atStart => exact ⟨[], 0, rfl, Nat.zero_le _, HexTo.start s, World.ownsRow_made w #[] 0 (Nat.le_refl _) (Nat.zero_le _) rfl, (Below.refl _ _).alloc (Nat.le_refl _) _⟩
  case round =>
    obtain ⟨bs, k, rfl, hk, hl, hown, hnx⟩ := hrel
    have HL : Hid (HexTo s k bs) := hl
    have hsz := hnx.size
    clear hl
    by_cases hlt : k < s.size
    · obtain ⟨c, hc⟩ : ∃ c : Int, (s[k].toNat : Int) = c := ⟨_, rfl⟩
      have hc0 : 0 ≤ c := by omega
      have hc1 : c ≤ 255 := by have := s[k].toNat_lt; omega
      have hat := run_at (P := Tryd.prog) 9 s k c Tryd.underlying9 hlt hc
      obtain ⟨q, hq⟩ : ∃ q : Int, q = c / 16 := ⟨_, rfl⟩
      obtain ⟨r, hr⟩ : ∃ r : Int, r = c % 16 := ⟨_, rfl⟩
      have e1 : IntKind.u8.wrap (c.tdiv 16) = q := by rw [div_u8 hc0 hc1, hq]
      have e2 : c.tmod 16 = r := by rw [Int.tmod_eq_emod_of_nonneg hc0, hr]
      have hd1 := run_digit (P := Tryd.prog) 9 .u8 q Tryd.underlying9 (by omega) (by omega)
      have hd2 := run_digit (P := Tryd.prog) 9 .u8 r Tryd.underlying9 (by omega) (by omega)
      obtain ⟨x1, hx1⟩ : ∃ x : Int, ((hexD q).toNat : Int) = x := ⟨_, rfl⟩
      obtain ⟨x2, hx2⟩ : ∃ x : Int, ((hexD r).toNat : Int) = x := ⟨_, rfl⟩
      rw [hx1] at hd1
      rw [hx2] at hd2
      have HX1 : Hid (((hexD q).toNat : Int) = x1) := hx1
      have HX2 : Hid (((hexD r).toNat : Int) = x2) := hx2
      have HQ : Hid (q = c / 16) := hq
      have HR : Hid (r = c % 16) := hr
      have HC : Hid ((s[k].toNat : Int) = c) := hc
      clear hc hq hr hx1 hx2
      go_wp2_with fail
      go_region_law ((refine step_append_bytes rfl _ _ 22 (by rfl) w.heap.size 5 Tryd.underlying22 Tryd.infoU8 u3 bs (2 * k) (by rfl) (by exact hown.alloc _) [hexD q, hexD r] wr.heap.size 2 2 rfl (by omega) (by rfl) (by exact two_new HX1.out HX2.out) (by omega) (by simp; omega) ?_; intro v' w2 hown2 hb2))
      all_goals
        clear hown e1 e2 hd1 hd2 hat
        go_wp2
        go_roundw
        case rel => exact ⟨bs ++ [hexD q, hexD r], k + 1, by go_num, hlt, HL.out.step hlt HC.out HQ.out HR.out, hown2, hnx.trans (((Below.refl _ _).alloc hsz _).drew.trans hb2)⟩
        case measure => simp [intOf]; omega
    · obtain rfl : k = s.size := by omega
      have hconv := run_conv_own 22 Tryd.underlying22 Tryd.underlying5 hown 9 Tryd.underlying9
      clear hown
      go_wp2
      go_ret
      exact ⟨ret_str (HL.out.done hbig), hnx⟩
end Go.Proofs.YtocljgjdllpokaaDoor
