/- Slices of texts: read where they lie; what the laws' helpers szStringS, toStringS, eqStringS answer. -/
import Derived.Test.YtchfpiadfmnphaaDoorJn18
import Derived.OwnWalk
namespace Go.Proofs.YtchfpiadfmnphaaDoor
open Go.RowKit
set_option linter.unusedVariables false

def SA (w : World) (a : Option Addr) (l : List ByteArray) : Prop := ∀ k (h : k < l.length), ∃ b o, a = some ⟨b, o, none⟩ ∧ w.cell? ⟨b, o + k, none⟩ = some (.string l[k])
theorem SA.below {w w' : World} {a : Option Addr} {l : List ByteArray} (h : SA w a l) (hb : Below w.heap.size w w') : SA w' a l := fun k hk => by
  obtain ⟨b, o, ha, hc⟩ := h k hk
  exact ⟨b, o, ha, (hb.cell (p := ⟨b, o + k, none⟩) (cellLt hc)).trans hc⟩
theorem SA.drew {w : World} {a : Option Addr} {l : List ByteArray} (h : SA w a l) : SA w.drew a l := h
theorem SA.drewN {w : World} {a : Option Addr} {l : List ByteArray} (h : SA w a l) (n : Nat) : SA (w.drewN n) a l := h
theorem SA.nil (w : World) (a : Option Addr) : SA w a [] := fun k h => absurd h (Nat.not_lt_zero _)
theorem SA.take {w : World} {a : Option Addr} {l : List ByteArray} (h : SA w a l) (n : Nat) : SA w a (l.take n) := fun k hk => by
  have hk' : k < l.length := by rw [List.length_take] at hk; omega
  obtain ⟨b, o, ha, hc⟩ := h k hk'
  exact ⟨b, o, ha, by rw [hc, List.getElem_take]⟩
theorem SA.drop {w : World} {b o : Nat} {l : List ByteArray} (h : SA w (some ⟨b, o, none⟩) l) (n : Nat) : SA w (some ⟨b, o + n, none⟩) (l.drop n) := fun k hk => by
  have hk' : n + k < l.length := by rw [List.length_drop] at hk; omega
  obtain ⟨b', o', ha, hc⟩ := h (n + k) hk'
  injection ha with ha
  injection ha with h1 h2
  subst h1 h2
  exact ⟨b, o + n, rfl, by rw [Nat.add_assoc, hc, List.getElem_drop]⟩
theorem SA.base {w : World} {a : Option Addr} {l : List ByteArray} (h : SA w a l) (hl : 1 ≤ l.length) : ∃ b o, a = some ⟨b, o, none⟩ := by
  obtain ⟨b, o, ha, _⟩ := h 0 hl
  exact ⟨b, o, ha⟩
/- A row of texts in a block of its own. -/
def svl (l : List ByteArray) : List Value := l.map Value.string
theorem svl_length (l : List ByteArray) : (svl l).length = l.length := List.length_map _
theorem svl_get {l : List ByteArray} {k : Nat} (h : k < l.length) : (svl l)[k]? = some (.string l[k]) := by unfold svl; rw [List.getElem?_map, List.getElem?_eq_getElem h]; rfl
theorem svl_set (l : List ByteArray) (k : Nat) (x : ByteArray) : (svl l).set k (.string x) = svl (l.set k x) := by unfold svl; rw [List.map_set]
theorem RowV.sa {w : World} {g : Nat} {l : List ByteArray} (h : RowV w g (svl l)) : SA w (some ⟨g, 0, none⟩) l := fun k hk => ⟨g, 0, rfl, by rw [Nat.zero_add]; exact h.cell (svl_get hk)⟩

theorem retZ {k : IntKind} {a b : Int} (h : a = b) : Ending.returned (.int k a) = .returned (.int k b) := by rw [h]
theorem retY {a b : Bool} (h : a = b) : Ending.returned (.bool a) = .returned (.bool b) := by rw [h]
/- Texts are compared byte by byte. -/
theorem txt_eq (x : ByteArray) : (x.toList == x.toList) = true := by simp
theorem txt_ne {x y : ByteArray} (h : ¬ x = y) : (x.toList == y.toList) = false := by
  refine beq_eq_false_iff_ne.2 fun e => h ?_
  rw [ByteArray.toList_eq, ByteArray.toList_eq] at e
  exact ByteArray.ext (Array.ext' e)
/- The room that texts take. -/
def roomS : List ByteArray → Int → Int
  | [], q => q
  | x :: l, q => if q - x.size < 0 then -1 else roomS l (q - x.size)
def roomL (l : List ByteArray) : Int := if 1048576 - (l.length : Int) < 0 then -1 else roomS l (1048576 - (l.length : Int))
theorem roomS_le : ∀ (l : List ByteArray) (q : Int), 0 ≤ roomS l q → ∀ x ∈ l, (x.size : Int) ≤ q
  | [], q, _, x, hx => by simp at hx
  | y :: l, q, h, x, hx => by
    rw [roomS] at h
    by_cases hy : q - y.size < 0
    · rw [if_pos hy] at h; omega
    · rw [if_neg hy] at h
      rcases List.mem_cons.1 hx with rfl | hx
      · omega
      · have := roomS_le l _ h x hx
        omega
theorem roomL_bd {l : List ByteArray} (h : 0 ≤ roomL l) : l.length ≤ 1048576 ∧ ∀ x ∈ l, x.size ≤ 1048576 := by
  unfold roomL at h
  by_cases hl : 1048576 - (l.length : Int) < 0
  · rw [if_pos hl] at h; omega
  · rw [if_neg hl] at h
    refine ⟨by omega, fun x hx => ?_⟩
    have := roomS_le l _ h x hx
    omega
set_option maxRecDepth 100000 in
set_option maxHeartbeats 1000000 in
theorem szS_any (a : Option Addr) (c n : Nat) (l : List ByteArray) (w : World) (hn : l.length = n) (h : SA w a l) (hM : n ≤ maxLen) (hx : ∀ x ∈ l, x.size ≤ maxLen) :
    Calls Tryd.prog 25 #[.slice a n c, .int .i64 1048576] w fun e w' => e = .returned (.int .i64 (roomL l)) ∧ w' = w := by
  have HA : Hid (SA w a l) := h
  have HN : Hid (l.length = n) := hn
  have HX : Hid (∀ x ∈ l, x.size ≤ maxLen) := hx
  clear h hn hx
  unfold maxLen at hM
  by_cases hb : 1048576 - (n : Int) < 0
  · have HR : Hid (roomL l = -1) := by show _ = _; unfold roomL; rw [if_pos (by have := HN.out; omega)]
    go_enter Tryd.func25, Tryd.ntmps25
    go_wp2
    go_ret
    exact ⟨retZ HR.out.symm, rfl⟩
  · have HR : Hid (roomL l = roomS (l.drop 0) (1048576 - (n : Int))) := by show _ = _; unfold roomL; rw [if_neg (by have := HN.out; omega), HN.out]; rfl
    go_enter Tryd.func25, Tryd.ntmps25
    go_wp2_with fail
    go_loop [1, 5] (fun vq vi => ∃ (k : Nat) (q : Int), vi = .int .i64 (k : Int) ∧ vq = .int .i64 q ∧ k ≤ n ∧ 0 ≤ q ∧ q ≤ 1048576 ∧ roomL l = roomS (l.drop k) q) (fun _ vi => n - (intOf vi).toNat)
    case atStart => exact ⟨0, _, rfl, rfl, Nat.zero_le _, by omega, by omega, HR.out⟩
    case round =>
      obtain ⟨k, q, rfl, rfl, hk, hq0, hq1, he⟩ := hrel
      have HE : Hid (roomL l = roomS (l.drop k) q) := he
      clear he
      by_cases hlt : k < n
      · have hkl : k < l.length := by have := HN.out; omega
        obtain ⟨b, o, rfl, hc⟩ := HA.out k hkl
        have hxs := HX.out l[k] (List.getElem_mem hkl)
        unfold maxLen at hxs
        have HD : Hid (roomS (l.drop k) q = if q - (l[k].size : Int) < 0 then -1 else roomS (l.drop (k + 1)) (q - l[k].size)) := by
          show _ = _
          rw [List.drop_eq_getElem_cons hkl, roomS]
        generalize l[k] = x at *
        have lk : (k : Int) < n := by omega
        have l0 : (0 : Int) ≤ k := by omega
        clear hkl
        by_cases hneg : q - (x.size : Int) < 0
        · have HF : Hid (roomL l = -1) := by show _ = _; rw [HE.out, HD.out, if_pos hneg]
          clear HE HD
          go_wp2
          go_ret
          exact ⟨retZ HF.out.symm, rfl⟩
        · have HF : Hid (roomL l = roomS (l.drop (k + 1)) (q - x.size)) := by show _ = _; rw [HE.out, HD.out, if_neg hneg]
          clear HE HD
          have hge : 0 ≤ q - (x.size : Int) := by omega
          go_wp2
          exact ⟨⟨k + 1, _, by go_num, rfl, hlt, hge, by omega, HF.out⟩, by simp [intOf]; omega⟩
      · obtain rfl : k = n := by omega
        have HF : Hid (roomL l = q) := by
          show _ = _
          rw [HE.out, List.drop_of_length_le (by have := HN.out; omega)]
          rfl
        clear HE
        go_wp2
        go_ret
        exact ⟨retZ HF.out.symm, rfl⟩
theorem Tryd.infoStr : (Tryd.prog.info? 9).map (fun i => (i.zero, i.size, i.bytes)) = some (some (.string ⟨#[]⟩), 1, 16) := by kernel_rfl
/- Parts of a slice of texts. -/
theorem Tryd.sliceLo (b o n c k : Nat) (h : k ≤ c) : ∀ w, (Instr.slice 22 (.slice (some ⟨b, o, none⟩) n c) none (some (.int .i64 (k : Int))) none).run Tryd.prog w = .ok (.slice (some ⟨b, o, none⟩) k c) w := by
  intro w
  have h1 : (k : Int) ≤ c := by omega
  simp [Instr.slice, run_underlying Tryd.underlying22, Instr.sliceBounds, run_sliceBound, h1]
  intro _
  exact Addr.add_zero' _
theorem Tryd.sliceHi (b o n c k : Nat) (h : k ≤ n) (hk : k < c) : ∀ w, (Instr.slice 22 (.slice (some ⟨b, o, none⟩) n c) (some (.int .i64 (k : Int))) none none).run Tryd.prog w = .ok (.slice (some ⟨b, o + k, none⟩) (n - k) (c - k)) w := by
  intro w
  have h1 : (k : Int) ≤ n := by omega
  simp [Instr.slice, run_underlying Tryd.underlying22, Instr.sliceBounds, run_sliceBound, h1, show ¬ c = k by omega, Addr.add_lit]
theorem Tryd.sliceLoM (b o n c k : Nat) (h : k ≤ c) : ∀ w, (Instr.slice 22 (.slice (some ⟨b, o, none⟩) n c) none (some (.int .i64 (k : Int))) (some (.int .i64 (k : Int)))).run Tryd.prog w = .ok (.slice (some ⟨b, o, none⟩) k k) w := by
  intro w
  have h1 : (k : Int) ≤ c := by omega
  simp [Instr.slice, run_underlying Tryd.underlying22, Instr.sliceBounds, run_sliceBound, h1]
  intro _
  exact Addr.add_zero' _
theorem made_zeroS (n : Nat) : (madeCells #[Value.string ⟨#[]⟩] n).toList = svl (List.replicate n ⟨#[]⟩) := by
  apply List.ext_getElem
  · simp [madeCells, svl]
  · intro i h1 h2
    simp [madeCells, Nat.mod_one, svl]
theorem RowV.made {w : World} {base e g n : Nat} {xs : List Value} (h : w.ownsRow base e 1 (.slice (some ⟨g, 0, none⟩) n n) n xs) : RowV w g xs := by
  rcases h.2 with ⟨h1, _⟩ | ⟨g', cap, cur, hv, hbg, hg, hnc, hcm, hcs, htake⟩
  · simp at h1
  · simp at hv
    obtain ⟨rfl, rfl⟩ := hv
    have : cur.toList = xs := by rw [← htake, List.take_of_length_le (by simp [hcs])]
    refine RowV.of_block (t := e) ?_
    rw [hg, ← this]
theorem copy_setS (l : List ByteArray) {k : Nat} (hk : k < l.length) : l.take (k + 1) ++ List.replicate (l.length - (k + 1)) (⟨#[]⟩ : ByteArray) = (l.take k ++ List.replicate (l.length - k) (⟨#[]⟩ : ByteArray)).set k l[k] := by
  rw [List.set_append_right _ _ (by rw [List.length_take]; omega), List.length_take, Nat.min_eq_left (by omega), Nat.sub_self]
  obtain ⟨d, hd⟩ : ∃ d, l.length - k = d + 1 := ⟨l.length - k - 1, by omega⟩
  rw [hd, show l.length - (k + 1) = d by omega, List.replicate_succ, List.set_cons_zero, List.take_succ_eq_append_getElem hk, List.append_assoc]
  rfl
theorem RowV.setS {w : World} {g k : Nat} {l l' : List ByteArray} {x : ByteArray} (h : RowV w g (svl l)) (hk : k < l.length) (hl : l' = l.set k x) : RowV (w.setCell ⟨g, k, none⟩ (.string x)) g (svl l') := by
  subst hl
  rw [← svl_set]
  have hk' : k < (svl l).length := by rw [svl_length]; exact hk
  generalize svl l = L at *
  obtain ⟨u, hu⟩ : ∃ u, w.cell? ⟨g, k, none⟩ = Option.some u := ⟨L[k], h.cell (List.getElem?_eq_getElem hk')⟩
  refine ⟨fun j y hy => ?_, fun j hj => ⟨?_, ?_⟩⟩
  · rw [Nat.zero_add]
    by_cases hjk : j = k
    · subst hjk
      rw [World.cell?_setCell_same w _ _ hu]
      simpa [hk'] using hy
    · rw [World.cell?_setCell_other w _ _ _ (by intro e; injection e with _ e _; exact hjk e.symm)]
      exact h.cell (by rw [← hy, List.getElem?_set_ne (fun e => hjk e.symm)])
  · rw [Nat.zero_add]
    by_cases hjk : j = k
    · subst hjk
      rw [World.cell?_setCell_same w _ _ hu]; rfl
    · rw [World.cell?_setCell_other w _ _ _ (by intro e; injection e with _ e _; exact hjk e.symm)]
      have := (h.ths j (by simpa using hj)).1
      rw [Nat.zero_add] at this
      exact this
  · rw [World.frozen?_setCell]
    exact (h.ths j (by simpa using hj)).2
set_option maxRecDepth 100000 in
set_option maxHeartbeats 1000000 in
theorem toS_row (a : Option Addr) (c n : Nat) (l : List ByteArray) (w : World) (hn : l.length = n) (h : SA w a l) (hb : n ≤ 1048576) :
    Calls Tryd.prog 27 #[.slice a n c] w fun e w' => e = .returned (.slice (some ⟨w.heap.size, 0, none⟩) n n) ∧ RowV w' w.heap.size (svl l) ∧ Below w.heap.size w w' ∧ w.heap.size < w'.heap.size := by
  have HA : Hid (SA w a l) := h
  have HN : Hid (l.length = n) := hn
  clear h hn
  obtain ⟨i0, hi, hz0, hz1, hz2⟩ := info_parts Tryd.infoStr
  go_enter Tryd.func27, Tryd.ntmps27
  go_wp2_with (first
    | (at_make; refine wpList_make_full _ rfl _ _ 22 rfl w.heap.size 9 i0 (.string ⟨#[]⟩) 1 Tryd.underlying22 hi hz0 hz1 _ _ _ _ n rfl rfl (by omega) (by omega) (by rw [hz2]; omega) (by unfold maxLen; omega) (Nat.le_refl _) ?_))
  intro w1 hown1 hgr1
  have HI1 : Hid (RowV w1 w.heap.size (svl (l.take 0 ++ List.replicate (l.length - 0) (⟨#[]⟩ : ByteArray)))) := by
    rw [HN.out]
    have := RowV.made hown1
    rw [made_zeroS] at this
    exact this
  have HL1 : Hid (w.heap.size < w1.heap.size) := (hown1.lt w.heap.size rfl).2
  have hb1 : Below w.heap.size w w1 := (Below.refl _ _).grown hgr1 (Nat.le_refl _) (fun _ h => by cases h)
  clear hown1 hgr1 hi hz0 hz1 hz2
  go_wp2_with fail
  go_loopw [4] (fun i wr => ∃ k : Nat, i = .int .i64 (k : Int) ∧ k ≤ n ∧ RowV wr w.heap.size (svl (l.take k ++ List.replicate (l.length - k) (⟨#[]⟩ : ByteArray))) ∧ Below w.heap.size w wr ∧ w.heap.size < wr.heap.size) (fun i _ => n - (intOf i).toNat)
  case atStart => exact ⟨0, rfl, Nat.zero_le _, HI1.out, hb1, HL1.out⟩
  case round =>
    obtain ⟨k, rfl, hk, hI, hB, hL⟩ := hrel
    have H8 : Hid (RowV wr w.heap.size (svl (l.take k ++ List.replicate (l.length - k) (⟨#[]⟩ : ByteArray))) ∧ Below w.heap.size w wr ∧ w.heap.size < wr.heap.size) := ⟨hI, hB, hL⟩
    by_cases hlt : k < n
    · have hkl : k < l.length := by have := HN.out; omega
      have hlen : k < (l.take k ++ List.replicate (l.length - k) (⟨#[]⟩ : ByteArray)).length := by simp; omega
      obtain ⟨b, o, rfl, ca⟩ := HA.out.below hB k hkl
      have cg := hI.cell (svl_get hlen)
      have hfz := hI.frozen (k := k) (by rw [svl_length]; exact hlen)
      generalize (l.take k ++ List.replicate (l.length - k) (⟨#[]⟩ : ByteArray))[k] = y at cg
      have HS : Hid (True → l.take (k + 1) ++ List.replicate (l.length - (k + 1)) (⟨#[]⟩ : ByteArray) = (l.take k ++ List.replicate (l.length - k) (⟨#[]⟩ : ByteArray)).set k l[k]) := fun _ => copy_setS l hkl
      generalize l[k] = x at *
      have H9 : Hid (RowV (wr.setCell ⟨w.heap.size, k, none⟩ (.string x)) w.heap.size (svl (l.take (k + 1) ++ List.replicate (l.length - (k + 1)) (⟨#[]⟩ : ByteArray))) ∧ Below w.heap.size w (wr.setCell ⟨w.heap.size, k, none⟩ (.string x)) ∧ w.heap.size < (wr.setCell ⟨w.heap.size, k, none⟩ (.string x)).heap.size) :=
        ⟨H8.out.1.setS hlen (HS.out trivial), H8.out.2.1.setCell (Nat.le_refl _) _, by rw [World.size_setCell]; exact hL⟩
      have lk : (k : Int) < n := by omega
      have l0 : (0 : Int) ≤ k := by omega
      clear hI hB hL hlen hkl H8 HI1 HA hb1
      go_wp2
      go_roundw
      case rel => exact ⟨k + 1, by go_num, hlt, H9.out.1, H9.out.2.1, H9.out.2.2⟩
      case measure => simp [intOf]; omega
    · obtain rfl : k = n := by omega
      go_wp2
      go_ret
      refine ⟨rfl, ?_, hB, hL⟩
      have := H8.out.1
      rw [List.take_of_length_le (by have := HN.out; omega), show l.length - k = 0 by have := HN.out; omega, List.replicate_zero, List.append_nil] at this
      exact this

set_option maxRecDepth 100000 in
set_option maxHeartbeats 1000000 in
theorem eqS_any (a1 a2 : Option Addr) (c1 c2 : Nat) (l1 l2 : List ByteArray) (w : World) (h1 : SA w a1 l1) (h2 : SA w a2 l2) (hb1 : l1.length ≤ 1000000000) (hb2 : l2.length ≤ 1000000000) :
    Calls Tryd.prog 29 #[.slice a1 l1.length c1, .slice a2 l2.length c2] w fun e w' => e = .returned (.bool (decide (l1 = l2))) ∧ Below w.heap.size w w' := by
  have H1 : Hid (SA w a1 l1) := h1
  have H2 : Hid (SA w a2 l2) := h2
  clear h1 h2
  by_cases hlen : l1.length = l2.length
  · have HLen : Hid (l1.length = l2.length) := hlen
    have HEX : Hid ((∀ j : Nat, j < l1.length → l1[j]? = l2[j]?) → decide (l1 = l2) = true) := fun h => decide_eq_true (List.ext_getElem? fun j => by
      by_cases hj : j < l1.length
      · exact h j hj
      · rw [List.getElem?_eq_none (by omega), List.getElem?_eq_none (by omega)])
    have HNE : Hid (∀ j : Nat, l1[j]? ≠ l2[j]? → decide (l1 = l2) = false) := fun j h => decide_eq_false (fun e => h (by rw [e]))
    obtain ⟨n, hn⟩ : ∃ n, l1.length = n := ⟨_, rfl⟩
    rw [← hlen, hn]
    rw [hn] at hb1
    have HN : Hid (l1.length = n) := hn
    clear hlen hn hb2
    go_enter Tryd.func29, Tryd.ntmps29
    go_wp2_with fail
    go_loopw [5] (fun i wr => ∃ k : Nat, i = .int .i64 (k : Int) ∧ k ≤ n ∧ (∀ j : Nat, j < k → l1[j]? = l2[j]?) ∧ Below w.heap.size w wr) (fun i _ => n - (intOf i).toNat)
    case atStart => exact ⟨0, rfl, Nat.zero_le _, fun j h => by omega, Below.refl _ _⟩
    case round =>
      obtain ⟨k, rfl, hk, hj, hb⟩ := hrel
      have HJ : Hid (∀ j : Nat, j < k → l1[j]? = l2[j]?) := hj
      have HB : Hid (Below w.heap.size w wr) := hb
      clear hj
      by_cases hlt : k < n
      · have hl1 : k < l1.length := by have := HN.out; omega
        have hl2 : k < l2.length := by have := HN.out; have := HLen.out; omega
        obtain ⟨g1, o1, rfl, d1⟩ := (H1.out.below hb) k hl1
        obtain ⟨g2, o2, rfl, d2⟩ := (H2.out.below hb) k hl2
        have HX : Hid (l1[k]? = some l1[k] ∧ l2[k]? = some l2[k]) := ⟨List.getElem?_eq_getElem hl1, List.getElem?_eq_getElem hl2⟩
        generalize l1[k] = x at *
        generalize l2[k] = y at *
        have lk : (k : Int) < n := by omega
        have l0 : (0 : Int) ≤ k := by omega
        clear hb hl1 hl2
        by_cases hxy : x = y
        · subst hxy
          have t1 := txt_eq x
          go_wp2_with fail
          go_quiet (fail)
          go_wp2
          go_roundw
          case rel => exact ⟨k + 1, by go_num, hlt, fun j hjk => by
            by_cases he : j = k
            · subst he; rw [HX.out.1, HX.out.2]
            · exact HJ.out j (by omega), belowN HB.out _⟩
          case measure => simp [intOf]; omega
        · have hxb := txt_ne hxy
          go_wp2_with fail
          go_quiet (fail)
          go_wp2
          go_ret
          exact ⟨by rw [HNE.out k (by rw [HX.out.1, HX.out.2]; intro e; injection e with e; exact hxy e)]; rfl, belowN HB.out _⟩
      · obtain rfl : k = n := by omega
        go_wp2
        go_ret
        exact ⟨by rw [HEX.out (fun j h => HJ.out j (by have := HN.out; omega))]; rfl, HB.out⟩
  · have hne : ((l1.length : Int) == (l2.length : Int)) = false := by simp; omega
    have hne' : ((l1.length : Int) != (l2.length : Int)) = true := by simp; omega
    have hd : decide (l1 = l2) = false := decide_eq_false (fun e => hlen (by rw [e]))
    rw [hd]
    go_enter Tryd.func29, Tryd.ntmps29
    go_wp2
    go_ret
    exact ⟨rfl, Below.refl _ _⟩
end Go.Proofs.YtchfpiadfmnphaaDoor
