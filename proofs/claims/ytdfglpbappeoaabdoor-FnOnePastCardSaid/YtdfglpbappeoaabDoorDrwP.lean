/- Hashes spoilt by a draw: told as a slice of texts of the call's own; nothing that was there changes but the source. -/
import Derived.Test.YtdfglpbappeoaabDoorDrwT
import Derived.Laws.AppendOwnNone
namespace Go.Proofs.YtdfglpbappeoaabDoor
open Go.RowKit
set_option linter.unusedVariables false

/- Texts, not many, not long. -/
structure Few (l : List ByteArray) (n : Nat) : Prop where
  len : l.length ≤ n
  small : ∀ x ∈ l, x.size ≤ 1000
set_option maxRecDepth 100000 in
theorem Few.snoc {l : List ByteArray} {n : Nat} {x : ByteArray} (h : Few l n) (hx : x.size ≤ 1000) : Few (l ++ [x]) (n + 1) := ⟨by rw [List.length_append]; have := h.len; simp; omega, fun y hy => by
  rcases List.mem_append.1 hy with h1 | h1
  · exact h.small y h1
  · rw [List.mem_singleton.1 h1]; exact hx⟩
set_option maxRecDepth 100000 in
theorem Few.cut {l : List ByteArray} {n : Nat} (h : Few l n) (i : Nat) : Few (l.take i ++ l.drop (i + 1)) n := ⟨by rw [List.length_append, List.length_take, List.length_drop]; have := h.len; omega, fun y hy => by
  rcases List.mem_append.1 hy with h1 | h1
  · exact h.small y (List.mem_of_mem_take h1)
  · exact h.small y (List.mem_of_mem_drop h1)⟩
set_option maxRecDepth 100000 in
theorem Few.set {l : List ByteArray} {n : Nat} {x : ByteArray} (h : Few l n) (i : Nat) (hx : x.size ≤ 1000) : Few (l.set i x) n := ⟨by rw [List.length_set]; exact h.len, fun y hy => by
  rcases List.mem_or_eq_of_mem_set hy with h1 | h1
  · exact h.small y h1
  · rw [h1]; exact hx⟩
set_option maxRecDepth 100000 in
theorem Few.mono {l : List ByteArray} {n m : Nat} (h : Few l n) (hm : n ≤ m) : Few l m := ⟨Nat.le_trans h.len hm, h.small⟩
/- What stands between two draws. -/
structure KpD (w : World) (g : Nat) (a : Option Addr) (len cap : Nat) (v : Value) (l : List ByteArray) (w' : World) : Prop where
  own : w'.ownsRow w.heap.size 9 1 v l.length (svl l)
  src : SrcAt w' g a len cap
  gr : w.grownBy w' (some g)
  lt : g < w.heap.size
set_option maxRecDepth 100000 in
theorem KpD.draw {w w' w2 : World} {g : Nat} {a : Option Addr} {len cap : Nat} {v : Value} {l : List ByteArray} (h : Hid (KpD w g a len cap v l w')) (h1 : SrcAt w2 g a len cap) (h2 : w'.grownBy w2 (some g)) : Hid (KpD w g a len cap v l w2) :=
  ⟨h.out.own.kept h2 (Or.inr (by intro e; have := (h.out.own.lt _ e).1; have := h.out.lt; omega)), h1, grownBy_trans h.out.gr h2, h.out.lt⟩
theorem KpD.app {w w' w2 : World} {g : Nat} {a : Option Addr} {len cap : Nat} {v v2 : Value} {l l2 : List ByteArray} (h : Hid (KpD w g a len cap v l w')) (ho : w2.ownsRow w.heap.size 9 1 v2 l2.length (svl l2)) (hb : Below w.heap.size w' w2) : Hid (KpD w g a len cap v2 l2 w2) :=
  ⟨ho, h.out.src.below hb h.out.lt, grownBy_below h.out.gr hb, h.out.lt⟩
set_option maxRecDepth 100000 in
theorem KpD.start {w w1 : World} {g : Nat} {a : Option Addr} {len cap : Nat} {v : Value} {l : List ByteArray} (hs : SrcAt w g a len cap) (ho : w1.ownsRow w.heap.size 9 1 v l.length (svl l)) (hb : Below w.heap.size w w1) : Hid (KpD w g a len cap v l w1) :=
  ⟨ho, hs.below hb hs.room, grownBy_below (World.grownBy.refl _ _) hb, hs.room⟩
/- A part of an own row is one. -/
set_option maxRecDepth 100000 in
theorem own_part {w : World} {base e : Nat} {g c n k : Nat} {l : List ByteArray} (h : w.ownsRow base e 1 (.slice (some ⟨g, 0, none⟩) n c) n (svl l)) (hk : k ≤ n) : w.ownsRow base e 1 (.slice (some ⟨g, 0, none⟩) k c) k (svl (l.take k)) := by
  have hl : l.length = n := by have := h.1; rw [svl_length] at this; omega
  refine ⟨by rw [svl_length, List.length_take]; omega, ?_⟩
  rcases h.2 with ⟨h0, _⟩ | ⟨g', cap, cur, hv, hbg, hg, h1, h2, h3, h4⟩
  · simp at h0
  · simp at hv
    obtain ⟨rfl, rfl⟩ := hv
    refine .inr ⟨g, c, cur, rfl, hbg, hg, by omega, h2, h3, ?_⟩
    have : svl (l.take k) = (svl l).take k := by unfold svl; rw [List.map_take]
    rw [this, ← h4, List.take_take]
    congr 1
    omega
set_option maxRecDepth 100000 in
theorem Tryd.sliceHiA (g n c k : Nat) (h : k ≤ n) (hc : n ≤ c) : ∃ p, (∀ w, (Instr.slice 23 (.slice (some ⟨g, 0, none⟩) n c) (some (.int .i64 (k : Int))) none none).run Tryd.prog w = .ok (.slice (some ⟨g, p, none⟩) (n - k) (c - k)) w) ∧ (k < c → p = k) := by
  by_cases hkc : k < c
  · exact ⟨k, fun w => by have := Tryd.sliceHi g 0 n c k h hkc w; rw [Nat.zero_add] at this; exact this, fun _ => rfl⟩
  · obtain rfl : k = c := by omega
    obtain rfl : n = k := by omega
    refine ⟨0, fun w => ?_, fun e => absurd e hkc⟩
    simp [Instr.slice, run_underlying Tryd.underlying23, Instr.sliceBounds, run_sliceBound]
/- A slice of texts that may be none. -/
def MayS (w : World) (u : Value) (l : List ByteArray) : Prop := (u = .slice none 0 0 ∧ l = []) ∨ ∃ b o c, u = .slice (some ⟨b, o, none⟩) l.length c ∧ l.length ≤ c ∧ SA w (some ⟨b, o, none⟩) l
set_option maxRecDepth 100000 in
theorem MayS.below {w w' : World} {u : Value} {l : List ByteArray} (h : MayS w u l) (hb : Below w.heap.size w w') : MayS w' u l := by
  rcases h with h | ⟨b, o, c, h1, h2, h3⟩
  · exact .inl h
  · exact .inr ⟨b, o, c, h1, h2, h3.below hb⟩
set_option maxRecDepth 100000 in
theorem wpList_append_may {W : World} {ops : Array Oper} {rest : List Oper} {o : Oper} {a : Act} {Q : Exit → Act → World → Prop} (hgd : o.guard = none) (s x : Operand) (ho : o.op = .call { callee := .builtin .append, args := #[s, x], argTypes := #[23, 23] })
    (base : Nat) (v : Value) (n m : Nat) (l1 l2 : List ByteArray) (hs : a.eval s = v) (hown : W.ownsRow base 9 1 v n (svl l1)) (u : Value) (hx : a.eval x = u) (hl2 : l2.length = m) (hu : MayS W u l2) (hn : n + m ≤ 1000000) (hbase : base ≤ W.heap.size)
    (h : ∀ v' w', w'.ownsRow base 9 1 v' (n + m) (svl (l1 ++ l2)) → Below base W w' → (v ≠ .slice none 0 0 → v' ≠ .slice none 0 0) → wpList Tryd.prog ops Q rest (a.put o.dst v') w') : wpList Tryd.prog ops Q (o :: rest) a W := by
  rcases hu with ⟨rfl, rfl⟩ | ⟨b, p, c, rfl, hc, hA⟩
  · obtain ⟨i0, hi, hz0, hz1, hz2⟩ := info_parts Tryd.infoStr
    refine wpList_append_own_none hgd s x 23 ho base 9 i0 1 Tryd.underlying23 hi v n (svl l1) hs hown hx (h v W ?_ (Below.refl _ _) id)
    obtain rfl : 0 = m := hl2
    rw [List.append_nil]
    exact hown
  · rw [hl2] at hx
    exact wpList_append_strs hgd s x ho base v n m l1 l2 hs hown b p c hx hl2 hA hn hbase h
set_option maxRecDepth 100000 in
theorem wp_append_strs {W : World} {o : Oper} {a : Act} {K : Act → World → Prop} {Q : Exit → Act → World → Prop} (s x : Operand) (ho : o.op = .call { callee := .builtin .append, args := #[s, x], argTypes := #[23, 23] })
    (base : Nat) (v : Value) (n m : Nat) (l1 l2 : List ByteArray) (hs : a.eval s = v) (hown : W.ownsRow base 9 1 v n (svl l1)) (g p c : Nat) (hx : a.eval x = .slice (some ⟨g, p, none⟩) m c) (hl2 : l2.length = m) (hA : SA W (some ⟨g, p, none⟩) l2) (hn : n + m ≤ 1000000) (hbase : base ≤ W.heap.size)
    (h : ∀ v' w', w'.ownsRow base 9 1 v' (n + m) (svl (l1 ++ l2)) → Below base W w' → (v ≠ .slice none 0 0 → v' ≠ .slice none 0 0) → K (a.put o.dst v') w') : Oper.wp Tryd.prog o a W K Q := by
  obtain ⟨i0, hi, hz0, hz1, hz2⟩ := info_parts Tryd.infoStr
  obtain ⟨v', w', hr, h2, h3, h4, h5⟩ := run_append_own_at (P := Tryd.prog) W base 23 o.type 9 i0 (.string ⟨#[]⟩) 1 16 Tryd.underlying23 hi hz0 hz1 hz2 rfl (by decide) v n (svl l1) hown ⟨g, p, none⟩ m c (svl l2) (by rw [svl_length]; omega)
    (fun j u hj => by
      obtain ⟨hj1, hj2⟩ := List.getElem?_eq_some_iff.1 hj
      have hjl : j < l2.length := by rw [svl_length] at hj1; exact hj1
      obtain ⟨b, o', hb, hc⟩ := hA j hjl
      injection hb with hb
      injection hb with e1 e2
      subst e1 e2
      rw [Addr.add_lit, hc, ← hj, svl_get hjl])
    (fun u hu => by
      unfold svl at hu
      obtain ⟨b, _, rfl⟩ := List.mem_map.1 hu
      rfl) (by unfold maxLen; omega) (by omega) hbase
  have hB : Below base W w' := (Below.refl base W).grown h3 hbase (fun k hk => (hown.lt k hk).1)
  unfold Oper.wp execOp
  simp only [ho, resolve, invoke, builtin, Sem.run_bind, Sem.run_pure, Result.andThen_ok, List.map_toArray, List.map_cons, List.map_nil, hs, hx, hr]
  exact h v' w' (by rw [show svl (l1 ++ l2) = svl l1 ++ svl l2 by simp [svl]]; exact h2) hB (fun hv hv' => hv (h4.1 hv').1)
attribute [local go_sem ↓] Go.wp_at_zero Go.wp_at_succ
set_option maxRecDepth 100000 in
set_option maxHeartbeats 2000000 in
theorem spoil_any (g len cap : Nat) (a : Option Addr) (w : World) (hsrc : SrcAt w g a len cap) (u : Value) (l : List ByteArray) (hf : Few l 400) (hu : MayS w u l) :
    Calls Tryd.prog 57 #[.pointer (some ⟨g, 0, none⟩), u] w fun e w' => ∃ v' l', e = .returned v' ∧ v' ≠ .slice none 0 0 ∧ Few l' 401 ∧ Hid (KpD w g a len cap v' l' w') := by
  have HA5 : Hid (∀ w1, SrcAt w1 g a len cap → Calls Tryd.prog 58 #[.pointer (some ⟨g, 0, none⟩)] w1 fun e w' => ∃ x : ByteArray, e = .returned (.string x) ∧ x.size ≤ 40 ∧ SrcAt w' g a len cap ∧ w1.grownBy w' (some g)) := fun w1 h1 => any5 g len cap a w1 h1
  have HO : Hid (∀ (m : Nat) w1, 0 < m → m ≤ 1000 → SrcAt w1 g a len cap → Calls Tryd.prog 55 #[.pointer (some ⟨g, 0, none⟩), .int .i64 (m : Int)] w1 fun e w' => ∃ b : Bool, Hid (e = .returned (.bool b) ∧ SrcAt w' g a len cap ∧ w1.grownBy w' (some g))) := fun m w1 k1 k2 h1 => one_any g len cap a m w1 h1 (by omega) (by omega)
  have HNn : Hid (∀ (most : Int) w1, 0 < most → most ≤ 1000 → SrcAt w1 g a len cap → Calls Tryd.prog 52 #[.pointer (some ⟨g, 0, none⟩), .int .i64 most] w1 fun e w' => ∃ v : Int, e = .returned (.int .i64 v) ∧ 0 ≤ v ∧ v < most ∧ SrcAt w' g a len cap ∧ w1.grownBy w' (some g)) := fun most w1 k1 k2 h1 => n_any g len cap a most w1 h1 k1 (by omega)
  have hgl := hsrc.room
  have hlen := hf.len
  have HF : Hid (Few l 400) := hf
  have B1 : Below w.heap.size w (w.alloc (.cells #[] 9)) := (Below.refl _ _).alloc (Nat.le_refl _) _
  have HW1 : Hid ((w.alloc (.cells #[] 9)).ownsRow w.heap.size 9 1 (.slice (some ⟨w.heap.size, 0, none⟩) 0 0) 0 (svl [])) := World.ownsRow_made w #[] 0 (Nat.le_refl _) (Nat.zero_le _) rfl
  have HU1 : Hid (MayS (w.alloc (.cells #[] 9)) u l) := hu.below B1
  have HB1 : Hid (Below w.heap.size w (w.alloc (.cells #[] 9))) := B1
  have HSr : Hid (SrcAt w g a len cap) := hsrc
  have hz1 : w.heap.size ≤ (w.alloc (.cells #[] 9)).heap.size := B1.size
  obtain ⟨n, hn⟩ : ∃ n, l.length = n := ⟨_, rfl⟩
  have HN : Hid (l.length = n) := hn
  rw [hn] at hlen
  clear hsrc hf hu B1 hn
  by_cases hn0 : n = 0
  · have d0 : ((n : Int) == 0) = true := beq_iff_eq.2 (by omega)
    clear hn0
    go_enter Tryd.func57, Tryd.ntmps57
    go_wp2_with (first
      | (at_builtin; refine wpList_append_may rfl _ _ rfl w.heap.size (.slice (some ⟨w.heap.size, 0, none⟩) 0 0) 0 n [] l rfl HW1.out u rfl HN.out HU1.out (by omega) hz1 ?_; intro v1 w1 hO1 hB1 hv1; rw [Nat.zero_add, List.nil_append] at hO1; obtain ⟨g1, c, rfl, hl1, hg1, hc1, hm1, hsa1⟩ := own_some hO1 (hv1 (by simp)); have HD1 : Hid (KpD w g a len cap (.slice (some ⟨g1, 0, none⟩) n c) l w1) := KpD.start HSr.out (by rw [HN.out]; exact hO1) (HB1.out.trans hB1); clear hO1 hB1 hv1 hl1 hsa1 HW1 HU1 HB1 hz1 HSr))
    refine (HA5.out _ HD1.out.src).mono ?_
    rintro e wa ⟨x, rfl, hx, k1, k2⟩
    have HDa : Hid (KpD w g a len cap (.slice (some ⟨g1, 0, none⟩) n c) l wa) := KpD.draw HD1 k1 k2
    have BA : Below w.heap.size wa (wa.alloc (.cells #[.string x] 9)) := (Below.refl _ _).alloc HDa.out.gr.size _
    have HOa : Hid ((wa.alloc (.cells #[.string x] 9)).ownsRow w.heap.size 9 1 (.slice (some ⟨g1, 0, none⟩) n c) n (svl l)) := by have := HDa.out.own; rw [HN.out] at this; exact this.alloc _
    have HXa : Hid (SA (wa.alloc (.cells #[.string x] 9)) (some ⟨wa.heap.size, 0, none⟩) [x]) := lit_sa wa x 9
    have hza : w.heap.size ≤ (wa.alloc (.cells #[.string x] 9)).heap.size := Nat.le_trans HDa.out.gr.size (by simp)
    have HBA : Hid (Below w.heap.size wa (wa.alloc (.cells #[.string x] 9))) := BA
    clear k1 k2 BA HD1
    go_wp2_with (first
      | (at_builtin; refine wpList_append_strs rfl _ _ rfl w.heap.size (.slice (some ⟨g1, 0, none⟩) n c) n 1 l [x] rfl HOa.out wa.heap.size 0 1 rfl rfl HXa.out (by omega) hza ?_; intro v6 w6 hO6 hB6 hv6))
    go_ret
    refine ⟨v6, l ++ [x], rfl, hv6 (by simp), HF.out.snoc (by omega), KpD.app HDa ?_ (HBA.out.trans hB6)⟩
    rw [List.length_append, HN.out]
    exact hO6
  have d0 : ((n : Int) == 0) = false := beq_eq_false_iff_ne.2 (by omega)
  have HO3 := HO.out 3
  go_enter Tryd.func57, Tryd.ntmps57
  go_wp2_with (first
    | (at_builtin; refine wpList_append_may rfl _ _ rfl w.heap.size (.slice (some ⟨w.heap.size, 0, none⟩) 0 0) 0 n [] l rfl HW1.out u rfl HN.out HU1.out (by omega) hz1 ?_; intro v1 w1 hO1 hB1 hv1; rw [Nat.zero_add, List.nil_append] at hO1; obtain ⟨g1, c, rfl, hl1, hg1, hc1, hm1, hsa1⟩ := own_some hO1 (hv1 (by simp)); have HD1 : Hid (KpD w g a len cap (.slice (some ⟨g1, 0, none⟩) n c) l w1) := KpD.start HSr.out (by rw [HN.out]; exact hO1) (HB1.out.trans hB1); clear hO1 hB1 hv1 hl1 hsa1 HW1 HU1 HB1 hz1 HSr))
  refine (HO3 _ (by omega) (by omega) HD1.out.src).mono ?_
  rintro e w2 ⟨bb, rfl, k1, k2⟩
  have HD2 := KpD.draw HD1 k1 k2
  clear k1 k2 HD1
  cases bb
  case true =>
    go_wp2_with fail
    refine (HA5.out _ HD2.out.src).mono ?_
    rintro e wa ⟨x, rfl, hx, k1, k2⟩
    have HDa : Hid (KpD w g a len cap (.slice (some ⟨g1, 0, none⟩) n c) l wa) := KpD.draw HD2 k1 k2
    have BA : Below w.heap.size wa (wa.alloc (.cells #[.string x] 9)) := (Below.refl _ _).alloc HDa.out.gr.size _
    have HOa : Hid ((wa.alloc (.cells #[.string x] 9)).ownsRow w.heap.size 9 1 (.slice (some ⟨g1, 0, none⟩) n c) n (svl l)) := by have := HDa.out.own; rw [HN.out] at this; exact this.alloc _
    have HXa : Hid (SA (wa.alloc (.cells #[.string x] 9)) (some ⟨wa.heap.size, 0, none⟩) [x]) := lit_sa wa x 9
    have hza : w.heap.size ≤ (wa.alloc (.cells #[.string x] 9)).heap.size := Nat.le_trans HDa.out.gr.size (by simp)
    have HBA : Hid (Below w.heap.size wa (wa.alloc (.cells #[.string x] 9))) := BA
    clear k1 k2 BA HD2
    go_wp2_with (first
      | (at_builtin; refine wpList_append_strs rfl _ _ rfl w.heap.size (.slice (some ⟨g1, 0, none⟩) n c) n 1 l [x] rfl HOa.out wa.heap.size 0 1 rfl rfl HXa.out (by omega) hza ?_; intro v6 w6 hO6 hB6 hv6))
    go_ret
    refine ⟨v6, l ++ [x], rfl, hv6 (by simp), HF.out.snoc (by omega), KpD.app HDa ?_ (HBA.out.trans hB6)⟩
    rw [List.length_append, HN.out]
    exact hO6
  have HNl := HNn.out (n : Int)
  go_wp2_with fail
  refine (HNl _ (by omega) (by omega) HD2.out.src).mono ?_
  rintro e w3 ⟨z, rfl, hz0, hz1, k1, k2⟩
  obtain ⟨i, rfl⟩ := Int.eq_ofNat_of_zero_le hz0
  have hin : i < n := by omega
  have HD3 := KpD.draw HD2 k1 k2
  have HO2 := HO.out 2
  clear k1 k2 HD2 HO
  go_wp2_with fail
  refine (HO2 _ (by omega) (by omega) HD3.out.src).mono ?_
  rintro e w4 ⟨bb, rfl, k1, k2⟩
  have HD4 := KpD.draw HD3 k1 k2
  clear k1 k2 HD3
  cases bb
  case false =>
    go_wp2_with fail
    refine (HA5.out _ HD4.out.src).mono ?_
    rintro e w5 ⟨x, rfl, hx, k1, k2⟩
    have HD5 := KpD.draw HD4 k1 k2
    have hO5 := HD5.out.own
    rw [HN.out] at hO5
    have hil : i < l.length := by have := HN.out; omega
    have hc5 : w5.cell? ⟨g1, i, none⟩ = some (.string l[i]) := by rw [hO5.cellAt i (by omega), svl_get hil]
    have hf5 := hO5.frozenAt i
    have HS5 : Hid (KpD w g a len cap (.slice (some ⟨g1, 0, none⟩) n c) (l.set i x) (w5.setCell ⟨g1, i, none⟩ (.string x))) := by
      have hs := hO5.stored i (.string x)
      refine KpD.app HD5 ?_ ((Below.refl _ _).setCell hg1 _)
      rw [List.length_set, HN.out, ← svl_set]
      exact hs.1
    generalize l[i] = y at *
    have i0 : (0 : Int) ≤ (i : Int) := by omega
    have i1 : (i : Int) < (n : Int) := by omega
    clear k1 k2 HD4 HD5 hO5 hil
    go_wp2
    go_ret
    exact ⟨_, l.set i x, rfl, by simp, (HF.out.set i (by omega)).mono (by omega), HS5⟩
  obtain ⟨p, hsl, hp⟩ := Tryd.sliceHiA g1 n c (i + 1) (by omega) hc1
  have slo := Tryd.sliceLo g1 0 n c i (by omega)
  rw [show ((i + 1 : Nat) : Int) = (i : Int) + 1 by omega] at hsl
  have ei : IntKind.i64.wrap ((i : Int) + 1) = (i : Int) + 1 := by rw [IntKind.wrap_i64]; omega
  have HD5 : Hid (KpD w g a len cap (.slice (some ⟨g1, 0, none⟩) n c) l w4.drew) := ⟨HD4.out.own.drew, HD4.out.src.drew, grownBy_drew HD4.out.gr, HD4.out.lt⟩
  have hO5 : w4.drew.ownsRow w.heap.size 9 1 (.slice (some ⟨g1, 0, none⟩) n c) n (svl l) := by have := HD5.out.own; rw [HN.out] at this; exact this
  have HP5 : Hid (w4.drew.ownsRow w.heap.size 9 1 (.slice (some ⟨g1, 0, none⟩) i c) i (svl (l.take i))) := own_part hO5 (by omega)
  have HX5 : Hid (SA w4.drew (some ⟨g1, p, none⟩) (l.drop (i + 1))) := fun k hk => by
    have hk' : i + 1 + k < l.length := by rw [List.length_drop] at hk; omega
    have hpp := hp (by have := HN.out; omega)
    refine ⟨g1, p, rfl, ?_⟩
    rw [hpp, hO5.cellAt (i + 1 + k) (by have := HN.out; omega), svl_get hk', List.getElem_drop]
  have hz5 : w.heap.size ≤ w4.drew.heap.size := HD5.out.gr.size
  have hl5 : (l.drop (i + 1)).length = n - (i + 1) := by rw [List.length_drop, HN.out]
  have HL5 : Hid ((l.drop (i + 1)).length = n - (i + 1)) := hl5
  clear hO5 HD4 hl5 hp
  go_wp2_with fail
  refine wp_region_held_drew (S := fun _ => True) (by kernel_rfl) trivial (fun hHeld => ?_)
  refine wpAnyH_take (i := 0) (oi := ⟨_, _, _, _, _, _⟩) (v := .slice (some ⟨g1, 0, none⟩) n c) rfl (by kernel_rfl) (by kernel_rfl) (by kernel_rfl) (fun _ _ _ h => h) (Or.inl ⟨wn' rfl, fun w' hSw => ?_⟩) trivial ?_
  · go_simp
  try simp only [Act.put, List.setIfInBounds_toArray, List.set_cons_zero, List.set_cons_succ]
  refine wpAnyH_take (i := 1) (oi := ⟨_, _, _, _, _, _⟩) (v := .int .i64 (i : Int)) rfl (by kernel_rfl) (by kernel_rfl) (by kernel_rfl) (fun _ _ _ h => h) (Or.inl ⟨wn' rfl, fun w' hSw => ?_⟩) trivial ?_
  · go_simp
  try simp only [Act.put, List.setIfInBounds_toArray, List.set_cons_zero, List.set_cons_succ]
  refine wpAnyH_take (i := 2) (oi := ⟨_, _, _, _, _, _⟩) (v := .slice (some ⟨g1, 0, none⟩) i c) rfl (by kernel_rfl) (by kernel_rfl) (by kernel_rfl) (fun _ _ _ h => h) (Or.inl ⟨wn' rfl, fun w' hSw => ?_⟩) trivial ?_
  · go_simp
  try simp only [Act.put, List.setIfInBounds_toArray, List.set_cons_zero, List.set_cons_succ]
  refine wpAnyH_take (i := 3) (oi := ⟨_, _, _, _, _, _⟩) (v := .slice (some ⟨g1, 0, none⟩) n c) rfl (by kernel_rfl) (by kernel_rfl) (by kernel_rfl) (fun _ _ _ h => h) (Or.inl ⟨wn' rfl, fun w' hSw => ?_⟩) trivial ?_
  · go_simp
  try simp only [Act.put, List.setIfInBounds_toArray, List.set_cons_zero, List.set_cons_succ]
  refine wpAnyH_take (i := 4) (oi := ⟨_, _, _, _, _, _⟩) (v := .int .i64 (i : Int)) rfl (by kernel_rfl) (by kernel_rfl) (by kernel_rfl) (fun _ _ _ h => h) (Or.inl ⟨wn' rfl, fun w' hSw => ?_⟩) trivial ?_
  · go_simp
  try simp only [Act.put, List.setIfInBounds_toArray, List.set_cons_zero, List.set_cons_succ]
  refine wpAnyH_take (i := 5) (oi := ⟨_, _, _, _, _, _⟩) (v := .int .i64 ((i : Int) + 1)) rfl (by kernel_rfl) (by kernel_rfl) (by kernel_rfl) (fun _ _ _ h => h) (Or.inl ⟨wn' rfl, fun w' hSw => ?_⟩) trivial ?_
  · go_simp
  try simp only [Act.put, List.setIfInBounds_toArray, List.set_cons_zero, List.set_cons_succ]
  refine wpAnyH_take (i := 6) (oi := ⟨_, _, _, _, _, _⟩) (v := .slice (some ⟨g1, p, none⟩) (n - (i + 1)) (c - (i + 1))) rfl (by kernel_rfl) (by kernel_rfl) (by kernel_rfl) (fun _ _ _ h => h) (Or.inl ⟨wn' rfl, fun w' hSw => ?_⟩) trivial ?_
  · go_simp
  try simp only [Act.put, List.setIfInBounds_toArray, List.set_cons_zero, List.set_cons_succ]
  refine wpAnyH_ready (rs := [7]) (by kernel_rfl) (by simp) (AllReadyH.cons (o := ⟨_, _, _, _, _, _⟩) rfl (fun K hK => ?_) AllReadyH.nil)
  rewrite [if_pos (wn' rfl)]
  with_reducible refine wp_append_strs (.tmp 29) (.tmp 33) (by with_unfolding_all rfl) w.heap.size (.slice (some ⟨g1, 0, none⟩) i c) i (n - (i + 1)) (l.take i) (l.drop (i + 1)) (by with_unfolding_all rfl) HP5.out g1 p (c - (i + 1)) (by with_unfolding_all rfl) HL5.out HX5.out (by omega) hz5 ?_
  intro v6 w6 hO6 hB6 hv6
  refine hK.out _ _ trivial (fun _ => ?_)
  clear hK K
  try simp only [Act.put, List.setIfInBounds_toArray, List.set_cons_zero, List.set_cons_succ]
  refine wpAnyH_take (i := 8) (oi := ⟨_, _, _, _, _, _⟩) (v := v6) rfl (by kernel_rfl) (by kernel_rfl) (by kernel_rfl) (fun _ _ _ h => h) (Or.inl ⟨wn' rfl, fun w' hSw => ?_⟩) trivial ?_
  · go_simp
  try simp only [Act.put, List.setIfInBounds_toArray, List.set_cons_zero, List.set_cons_succ]
  refine wpAnyH_done (by kernel_rfl) ?_ _
  have HR : Hid (KpD w g a len cap v6 (l.take i ++ l.drop (i + 1)) w6) := KpD.app HD5 (by rw [List.length_append, List.length_take, HL5.out, HN.out, Nat.min_eq_left (by omega)]; exact hO6) hB6
  have HV6 : Hid (v6 ≠ .slice none 0 0) := hv6 (by simp)
  clear hO6 hB6 hv6 HP5 HX5 HD5 hHeld
  go_wp2
  go_ret
  exact ⟨v6, _, rfl, HV6.out, (HF.out.cut i).mono (by omega), HR⟩
end Go.Proofs.YtdfglpbappeoaabDoor
