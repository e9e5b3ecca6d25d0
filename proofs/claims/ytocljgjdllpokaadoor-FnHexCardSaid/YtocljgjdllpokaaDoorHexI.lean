/- What the program's Hex answers, for every text: the digits of its bytes. -/
import Derived.Test.YtocljgjdllpokaaDoorHexS
import Derived.Test.YtocljgjdllpokaaDoorRow
import Derived.Laws.CopyOwn
namespace Go.Proofs.YtocljgjdllpokaaDoor
open Go.RowKit
set_option linter.unusedVariables false
attribute [local go_sem ↓] Go.wp_at_zero Go.wp_at_succ

theorem RowIs.later {w : World} {g e : Nat} {l : List UInt8} (h : RowIs w g e l) {B : Nat} (hB : B ≤ w.heap.size) {o : Obj} : RowIs (w.alloc o).drew.drew g e l := by
  unfold RowIs at *
  rw [← h]
  refine Below.heap_alloc w o g ?_
  rcases Nat.lt_or_ge g w.heap.size with h1 | h1
  · exact h1
  · rw [Array.getElem?_eq_none h1] at h; cases h
theorem two_new' {wr : World} {t : TypeId} {b1 b2 : UInt8} {x1 x2 : Int} (h1 : (b1.toNat : Int) = x1) (h2 : (b2.toNat : Int) = x2) : ∃ t' fr, (wr.alloc (.cells #[.int .u8 x1, .int .u8 x2] t)).drew.drew.heap[wr.heap.size]? = some (.cells (bvs [b1, b2]).toArray t' fr) := by
  subst h1 h2
  exact ⟨t, (0, 0), heap_alloc_new wr _⟩
/- Two bytes laid by copy into a row that is known whole, at a step of a region that draws its order. -/
theorem step_copy_two {P : Program} {W : World} {ops : Array Oper} {o : Oper} {a : Act} {K : Act → World → Prop} {Q : Exit → Act → World → Prop} {E : Prop} (hgd : o.guard = none) (d s : Operand) (dT : TypeId)
    (ho : o.op = .call { callee := .builtin .copy, args := #[d, s], argTypes := #[dT, dT] }) (elem : TypeId) (hu : P.underlying dT = some (.slice elem)) (hsz : (P.info? elem).map (·.size) = some 1)
    (g m dLen dCap B c : Nat) (hd : a.eval d = .slice (some ⟨g, m, none⟩) dLen dCap) (hs : a.eval s = .slice (some ⟨B, 0, none⟩) 2 c)
    (bs : List UInt8) (z : Nat) (hrow : RowIs W g elem (bs ++ List.replicate z 0)) (hz : 2 ≤ z) (hbs : bs.length = m) (hL : 2 ≤ dLen) (b1 b2 : UInt8)
    (hblk : ∃ t fr, W.heap[B]? = some (.cells (bvs [b1, b2]).toArray t fr)) (B0 : Nat) (w0 : World) (hb : Below B0 w0 W) (hBg : B0 ≤ g)
    (h : ∀ w', RowIs w' g elem ((bs ++ [b1, b2]) ++ List.replicate (z - 2) 0) → Below B0 w0 w' → K (a.put o.dst (goInt 2)) w') :
    if Region.wanted o (yielded ops a.tmps) = true then Oper.wp P o a W K Q else E := by
  obtain ⟨t, fr, hblk⟩ := hblk
  have hmin : Nat.min 2 dLen = 2 := by have : min 2 dLen = 2 := by omega
                                       exact this
  refine step_copy_splice hgd d s dT dT ho elem hu hsz _ _ dLen dCap 2 c hd hs g m (bvs (bs ++ List.replicate z 0)) elem hrow (bvs [b1, b2]) (by rw [bvs_length, hmin]; rfl)
    (fun _ => ⟨rfl, _, rfl, by simpa using World.news_of_block hblk⟩) (by rw [bvs_length, bvs_length]; simp; omega) (by intro u hu; unfold bvs at hu; obtain ⟨b, _, rfl⟩ := List.mem_map.1 hu; rfl) B0 w0 hb hBg ?_
  intro w' h1 h2
  refine h w' ?_ h2
  have h1 := h1.out
  unfold RowIs
  rw [h1]
  congr 3
  unfold splice bvs
  subst hbs
  obtain ⟨y, rfl⟩ : ∃ y, z = y + 2 := ⟨z - 2, by omega⟩
  simp [List.map_append, List.drop_append, List.replicate_succ]
theorem wrap_two {k : Nat} (h : k ≤ 20000) : IntKind.i64.wrap (2 * (k : Int)) = ((2 * k : Nat) : Int) := by
  simp [IntKind.wrap, IntKind.signed, IntKind.bits]
  omega
theorem hexL_length (l : List UInt8) : (hexL l).length = 2 * l.length := by
  induction l with
  | nil => rfl
  | cons x l ih =>
    have : hexL (x :: l) = [hexD ((x.toNat : Int) / 16), hexD ((x.toNat : Int) % 16)] ++ hexL l := rfl
    rw [this, List.length_append, ih]
    simp only [List.length_cons, List.length_nil]
    omega
theorem HexTo.len {s : ByteArray} {k : Nat} {bs : List UInt8} (h : HexTo s k bs) (hk : k ≤ s.size) : bs.length = 2 * k := by
  unfold HexTo at h
  have h2 : k ≤ s.data.toList.length := hk
  rw [h, hexL_length, List.length_take]
  omega
set_option maxRecDepth 100000 in
set_option maxHeartbeats 1000000 in
theorem implHex (s : ByteArray) (w : World) (hs : s.size ≤ maxLen) :
    Calls Tryd.prog 18 #[.string s] w fun e w' => e = .returned (.string (hexS s)) ∧ Below w.heap.size w w' := by
  unfold maxLen at hs
  by_cases hbig : 20000 < s.size
  · have HR : Hid (hexS s = ⟨#[]⟩) := hexS_big hbig
    go_enter Tryd.func18, Tryd.ntmps18
    go_wp2_with fail
    go_ret
    exact ⟨ret_str HR.out.symm, Below.refl _ _⟩
  obtain ⟨i0, hi, hz0, hz1, hz2⟩ := info_parts Tryd.infoU8
  go_enter Tryd.func18, Tryd.ntmps18
  go_wp2_with (first
    | (at_make; refine wpList_make_full _ rfl _ _ 22 rfl w.heap.size 5 i0 (.int .u8 0) 1 Tryd.underlying22 hi hz0 hz1 _ _ _ _ (2 * s.size) rfl rfl (by omega) (by omega) (by rw [hz2]; omega) (by unfold maxLen; omega) (Nat.le_refl _) ?_))
  intro w1 hown1 hgr1
  have hrow1 := RowIs.made hown1 (made_zero _)
  have hb1 : Below w.heap.size w w1 := (Below.refl _ _).grown hgr1 (Nat.le_refl _) (fun _ h => by cases h)
  have HR1 : Hid (RowIs w1 w.heap.size 5 ([] ++ List.replicate (2 * s.size - 2 * 0) 0)) := hrow1
  clear hown1 hgr1 hrow1 hi hz0 hz1 hz2
  go_wp2_with fail
  go_loopw [15] (fun i wr => ∃ (bs : List UInt8) (k : Nat), i = .int .i64 k ∧ k ≤ s.size ∧ HexTo s k bs ∧ RowIs wr w.heap.size 5 (bs ++ List.replicate (2 * s.size - 2 * k) 0) ∧ Below w.heap.size w wr)
    (fun i _ => s.size - (intOf i).toNat)
  case atStart => exact ⟨[], 0, rfl, Nat.zero_le _, HexTo.start s, HR1.out, hb1⟩
  case round =>
    obtain ⟨bs, k, rfl, hk, hl, hrow, hnx⟩ := hrel
    have HL : Hid (HexTo s k bs) := hl
    have HRow : Hid (RowIs wr w.heap.size 5 (bs ++ List.replicate (2 * s.size - 2 * k) 0)) := hrow
    have hsz := hnx.size
    clear hl hrow HR1 hb1
    by_cases hlt : k < s.size
    · obtain ⟨c, hc⟩ : ∃ c : Int, (s[k].toNat : Int) = c := ⟨_, rfl⟩
      have hc0 : 0 ≤ c := by omega
      have hc1 : c ≤ 255 := by have := s[k].toNat_lt; omega
      have hat := run_at (P := Tryd.prog) 9 s k c Tryd.underlying9 hlt hc
      obtain ⟨q, hq⟩ : ∃ q : Int, q = c / 16 := ⟨_, rfl⟩
      obtain ⟨r, hr⟩ : ∃ r : Int, r = c % 16 := ⟨_, rfl⟩
      have e1 : IntKind.u8.wrap (c.tdiv 16) = q := by rw [div_u8 hc0 hc1, hq]
      have e2 : c.tmod 16 = r := by rw [Int.tmod_eq_emod_of_nonneg hc0, hr]
      have hd1 := run_digit (P := Tryd.prog) 9 .u8 q Tryd.underlying9 (by omega) (by omega)
      have hd2 := run_digit (P := Tryd.prog) 9 .u8 r Tryd.underlying9 (by omega) (by omega)
      obtain ⟨x1, hx1⟩ : ∃ x : Int, ((hexD q).toNat : Int) = x := ⟨_, rfl⟩
      obtain ⟨x2, hx2⟩ : ∃ x : Int, ((hexD r).toNat : Int) = x := ⟨_, rfl⟩
      rw [hx1] at hd1
      rw [hx2] at hd2
      have HX1 : Hid (((hexD q).toNat : Int) = x1) := hx1
      have HX2 : Hid (((hexD r).toNat : Int) = x2) := hx2
      have HQ : Hid (q = c / 16) := hq
      have HR : Hid (r = c % 16) := hr
      have HC : Hid ((s[k].toNat : Int) = c) := hc
      clear hc hq hr hx1 hx2
      obtain ⟨m, hm⟩ : ∃ m : Nat, m = 2 * k := ⟨_, rfl⟩
      have ew : IntKind.i64.wrap (2 * (k : Int)) = (m : Int) := by rw [hm]; exact wrap_two (by omega)
      have hm0 : (0 : Int) ≤ (m : Int) := by omega
      have hm1 : (m : Int) ≤ 2 * (s.size : Int) := by omega
      have hne : ¬ (2 * s.size = m) := by omega
      have hm2 : m + 2 ≤ 2 * s.size := by omega
      have HLen : Hid (bs.length = m) := by show bs.length = m; rw [hm]; exact HL.out.len hk
      rw [← hm] at HRow
      have HM : Hid (m = 2 * k) := hm
      clear hm
      go_wp2_with fail
      go_region
      go_wp2_with fail
      go_region_law ((refine step_copy_two rfl _ _ 22 (by rfl) 5 Tryd.underlying22 (by kernel_rfl) w.heap.size m _ _ wr.heap.size 2 (by rfl) (by rfl) bs (2 * s.size - m) (by exact HRow.out.later hsz) (by omega) HLen.out (by omega) (hexD q) (hexD r) (by exact two_new' HX1.out HX2.out) w.heap.size w (by exact (hnx.alloc hsz _).drew.drew) (Nat.le_refl _) ?_; intro w2 hrow2 hb2))
      clear hat hd1 hd2 e1 e2
      have HRow2 : Hid (RowIs w2 w.heap.size 5 (bs ++ [hexD q, hexD r] ++ List.replicate (2 * s.size - m - 2) 0)) := hrow2
      clear hrow2 HRow
      go_wp2
      go_roundw
      case rel => exact ⟨bs ++ [hexD q, hexD r], k + 1, by go_num, hlt, HL.out.step hlt HC.out HQ.out HR.out, by rw [show 2 * s.size - 2 * (k + 1) = 2 * s.size - m - 2 by rw [HM.out]; omega]; exact HRow2.out, hb2⟩
      case measure => simp [intOf]; omega
    · obtain rfl : k = s.size := by omega
      have hrow := HRow.out
      rw [Nat.sub_self] at hrow
      have hown := hrow.owns (n := 2 * s.size) (base := w.heap.size) (by simpa using HL.out.len hk) (Nat.le_refl _) (by unfold maxLen; omega)
      have hconv := run_conv_own 22 Tryd.underlying22 Tryd.underlying5 hown 9 Tryd.underlying9
      rw [List.replicate_zero, List.append_nil] at hconv
      clear hown hrow
      go_wp2
      go_ret
      exact ⟨ret_str (HL.out.done hbig), hnx⟩
end Go.Proofs.YtocljgjdllpokaaDoor
