/- Texts that a call appends to a slice of its own. Marks in texts: what the laws' helpers markText, markStringS, heldStringS answer. -/
import Derived.Test.YtchfpiadfmnphaaDoorSRow
import Derived.Maps.AppendAt
import Derived.Deep.RegionHeld3
import Derived.Test.YtchfpiadfmnphaaDoorOwn
import Derived.Test.YtchfpiadfmnphaaDoorMrkT
namespace Go.Proofs.YtchfpiadfmnphaaDoor
open Go.RowKit
set_option linter.unusedVariables false

theorem own_below {w w' : World} {base e size : Nat} {v : Value} {n : Nat} {xs : List Value} (h : w.ownsRow base e size v n xs) (hb : Below w.heap.size w w') : w'.ownsRow base e size v n xs := by
  refine ⟨h.1, ?_⟩
  rcases h.2 with h0 | ⟨g, cap, cur, hv, hbg, hg, h1, h2, h3, h4⟩
  · exact .inl h0
  · exact .inr ⟨g, cap, cur, hv, hbg, (hb.block g (Array.getElem?_eq_some_iff.1 hg).1).trans hg, h1, h2, h3, h4⟩
theorem own_drew {w : World} {base e size : Nat} {v : Value} {n : Nat} {xs : List Value} (h : w.ownsRow base e size v n xs) : w.drew.ownsRow base e size v n xs := h
/- Read as a slice of texts. -/
theorem own_sa {w : World} {base e : Nat} {v : Value} {n : Nat} {l : List ByteArray} (h : w.ownsRow base e 1 v n (svl l)) : ∃ a c, v = .slice a n c ∧ l.length = n ∧ n ≤ c ∧ c ≤ maxLen ∧ SA w a l := by
  have hl : l.length = n := by have := h.1; rw [svl_length] at this; omega
  rcases h.2 with ⟨rfl, rfl⟩ | ⟨g, cap, cur, rfl, hbg, hg, h1, h2, h3, h4⟩
  · have : l = [] := List.length_eq_zero_iff.1 hl
    subst this
    exact ⟨none, 0, rfl, rfl, Nat.le_refl _, by unfold maxLen; omega, SA.nil _ _⟩
  · refine ⟨some ⟨g, 0, none⟩, cap, rfl, hl, h1, h2, fun k hk => ⟨g, 0, rfl, ?_⟩⟩
    rw [Nat.zero_add, h.cellAt k (by omega), svl_get hk]
theorem wn' {o : Oper} {y : Nat → Option Bool} (h : o.guard = none) : Region.wanted o y = true := by simp [Region.wanted, h]
set_option maxRecDepth 100000 in
theorem wp_append_str {W : World} {o : Oper} {a : Act} {K : Act → World → Prop} {Q : Exit → Act → World → Prop} (s x : Operand) (ho : o.op = .call { callee := .builtin .append, args := #[s, x], argTypes := #[22, 22] })
    (base : Nat) (v : Value) (n : Nat) (l : List ByteArray) (hs : a.eval s = v) (hown : W.ownsRow base 9 1 v n (svl l)) (g c : Nat) (y : ByteArray) (hx : a.eval x = .slice (some ⟨g, 0, none⟩) 1 c) (hc : W.cell? ⟨g, 0, none⟩ = some (.string y)) (hn : n ≤ 1000000) (hbase : base ≤ W.heap.size)
    (h : ∀ v' w', w'.ownsRow base 9 1 v' (n + 1) (svl (l ++ [y])) → Below base W w' → K (a.put o.dst v') w') : Oper.wp Tryd.prog o a W K Q := by
  obtain ⟨i0, hi, hz0, hz1, hz2⟩ := info_parts Tryd.infoStr
  obtain ⟨v', w', hr, h2, h3, h4⟩ := run_append_own_at (P := Tryd.prog) W base 22 o.type 9 i0 (.string ⟨#[]⟩) 1 16 Tryd.underlying22 hi hz0 hz1 hz2 rfl (by decide) v n (svl l) hown ⟨g, 0, none⟩ 1 c [.string y] rfl
    (fun j u hj => by
      match j, hj with
      | 0, hj => simp at hj; subst hj; rw [Addr.add_zero']; exact hc)
    (by intro u hu; simp at hu; subst hu; rfl) (by unfold maxLen; omega) (by omega) hbase
  have hB : Below base W w' := (Below.refl base W).grown h3 hbase (fun k hk => (hown.lt k hk).1)
  unfold Oper.wp execOp
  simp only [ho, resolve, invoke, builtin, Sem.run_bind, Sem.run_pure, Result.andThen_ok, List.map_toArray, List.map_cons, List.map_nil, hs, hx, hr]
  exact h v' w' (by rw [show svl (l ++ [y]) = svl l ++ [.string y] by simp [svl]]; exact h2) hB
/- A slice of texts that the call made: it may be written, and lies behind what was there. -/
def NewS (w : World) (base : Nat) (v : Value) (l : List ByteArray) : Prop := ∃ a c, v = .slice a l.length c ∧ l.length ≤ c ∧ c ≤ maxLen ∧ (l ≠ [] → ∃ g, a = some ⟨g, 0, none⟩ ∧ base ≤ g ∧ RowV w g (svl l))
theorem NewS.of_own {w : World} {base e n : Nat} {v : Value} {l : List ByteArray} (h : w.ownsRow base e 1 v n (svl l)) : NewS w base v l := by
  have hl : l.length = n := by have := h.1; rw [svl_length] at this; omega
  rcases h.2 with ⟨rfl, rfl⟩ | ⟨g, cap, cur, rfl, hbg, hg, h1, h2, h3, h4⟩
  · have : l = [] := List.length_eq_zero_iff.1 hl
    subst this
    exact ⟨none, 0, rfl, Nat.le_refl _, by unfold maxLen; omega, fun e => absurd rfl e⟩
  · subst hl
    refine ⟨some ⟨g, 0, none⟩, cap, rfl, h1, h2, fun _ => ⟨g, rfl, hbg, fun j v hv => ?_, fun j hj => ?_⟩⟩
    · obtain ⟨hj, _⟩ := List.getElem?_eq_some_iff.1 hv
      rw [svl_length] at hj
      rw [Nat.zero_add, h.cellAt j (by omega), hv]
    · rw [svl_length] at hj
      rw [Nat.zero_add, h.cellAt j (by omega), h.frozenAt j, List.getElem?_eq_getElem (by rw [svl_length]; exact hj)]
      exact ⟨rfl, rfl⟩
theorem svl_ne {l : List ByteArray} (h : l ≠ []) : svl l ≠ [] := by
  intro e
  exact h (by unfold svl at e; simpa using e)
theorem NewS.below {w w' : World} {base : Nat} {v : Value} {l : List ByteArray} (h : NewS w base v l) (hb : Below w.heap.size w w') : NewS w' base v l := by
  obtain ⟨a, c, h1, h2, h3, h4⟩ := h
  refine ⟨a, c, h1, h2, h3, fun hl => ?_⟩
  obtain ⟨g, e1, e2, e3⟩ := h4 hl
  exact ⟨g, e1, e2, e3.below hb (e3.lt (svl_ne hl))⟩
theorem NewS.far {w w' : World} {g : Nat} {v : Value} {l : List ByteArray} (h : NewS w (g + 1) v l) (hf : ∀ x : Addr, x.block ≠ g → w'.cell? x = w.cell? x ∧ w'.frozen? x = w.frozen? x) : NewS w' g v l := by
  obtain ⟨a, c, h1, h2, h3, h4⟩ := h
  refine ⟨a, c, h1, h2, h3, fun hl => ?_⟩
  obtain ⟨g', e1, e2, e3⟩ := h4 hl
  exact ⟨g', e1, by omega, e3.same fun k => hf ⟨g', k, none⟩ (by show g' ≠ g; omega)⟩
theorem NewS.mono {w : World} {b b' : Nat} {v : Value} {l : List ByteArray} (h : NewS w b v l) (hb : b' ≤ b) : NewS w b' v l := by
  obtain ⟨a, c, h1, h2, h3, h4⟩ := h
  refine ⟨a, c, h1, h2, h3, fun hl => ?_⟩
  obtain ⟨g, e1, e2, e3⟩ := h4 hl
  exact ⟨g, e1, by omega, e3⟩
theorem NewS.nil (w : World) (base : Nat) : NewS w base (.slice none 0 0) [] := ⟨none, 0, rfl, Nat.le_refl _, by unfold maxLen; omega, fun e => absurd rfl e⟩
theorem NewS.sa {w : World} {base : Nat} {v : Value} {l : List ByteArray} (h : NewS w base v l) : ∃ a c, v = .slice a l.length c ∧ l.length ≤ c ∧ c ≤ maxLen ∧ SA w a l := by
  obtain ⟨a, c, h1, h2, h3, h4⟩ := h
  refine ⟨a, c, h1, h2, h3, fun k hk => ?_⟩
  obtain ⟨g, e1, e2, e3⟩ := h4 (by intro e; rw [e] at hk; simp at hk)
  subst e1
  exact e3.sa k hk
/- All texts of another slice, appended. -/
set_option maxRecDepth 100000 in
theorem wpList_append_strs {W : World} {ops : Array Oper} {rest : List Oper} {o : Oper} {a : Act} {Q : Exit → Act → World → Prop} (hgd : o.guard = none) (s x : Operand) (ho : o.op = .call { callee := .builtin .append, args := #[s, x], argTypes := #[22, 22] })
    (base : Nat) (v : Value) (n m : Nat) (l1 l2 : List ByteArray) (hs : a.eval s = v) (hown : W.ownsRow base 9 1 v n (svl l1)) (g p c : Nat) (hx : a.eval x = .slice (some ⟨g, p, none⟩) m c) (hl2 : l2.length = m) (hA : SA W (some ⟨g, p, none⟩) l2) (hn : n + m ≤ 1000000) (hbase : base ≤ W.heap.size)
    (h : ∀ v' w', w'.ownsRow base 9 1 v' (n + m) (svl (l1 ++ l2)) → Below base W w' → (v ≠ .slice none 0 0 → v' ≠ .slice none 0 0) → wpList Tryd.prog ops Q rest (a.put o.dst v') w') : wpList Tryd.prog ops Q (o :: rest) a W := by
  obtain ⟨i0, hi, hz0, hz1, hz2⟩ := info_parts Tryd.infoStr
  refine wpList_append_own W hgd s x 22 ho base 9 i0 (.string ⟨#[]⟩) 1 16 Tryd.underlying22 hi hz0 hz1 hz2 rfl (by decide) v n (svl l1) hs hown ⟨g, p, none⟩ m c (svl l2) hx (by rw [svl_length]; omega) (fun j u hj => ?_) (fun u hu => ?_) (by unfold maxLen; omega) (by omega) hbase fun v' w' h2 h3 h4 => ?_
  · obtain ⟨hj1, hj2⟩ := List.getElem?_eq_some_iff.1 hj
    have hjl : j < l2.length := by rw [svl_length] at hj1; exact hj1
    obtain ⟨b, o', hb, hc⟩ := hA j hjl
    injection hb with hb
    injection hb with e1 e2
    subst e1 e2
    rw [Addr.add_lit, hc, ← hj, svl_get hjl]
  · unfold svl at hu
    obtain ⟨b, _, rfl⟩ := List.mem_map.1 hu
    rfl
  · refine h v' w' ?_ ((Below.refl base W).grown h3 hbase (fun k hk => (hown.lt k hk).1)) (fun hv hv' => hv (h4.1 hv').1)
    rw [show svl (l1 ++ l2) = svl l1 ++ svl l2 by simp [svl]]
    exact h2
set_option maxRecDepth 100000 in
theorem own_some {w : World} {base e : Nat} {v : Value} {n : Nat} {l : List ByteArray} (h : w.ownsRow base e 1 v n (svl l)) (hv : v ≠ .slice none 0 0) : ∃ g c, v = .slice (some ⟨g, 0, none⟩) n c ∧ l.length = n ∧ base ≤ g ∧ n ≤ c ∧ c ≤ maxLen ∧ SA w (some ⟨g, 0, none⟩) l := by
  have hl : l.length = n := by have := h.1; rw [svl_length] at this; omega
  rcases h.2 with ⟨rfl, _⟩ | ⟨g, cap, cur, rfl, hbg, hg, h1, h2, h3, h4⟩
  · exact absurd rfl hv
  · refine ⟨g, cap, rfl, hl, hbg, h1, h2, fun k hk => ⟨g, 0, rfl, ?_⟩⟩
    rw [Nat.zero_add, h.cellAt k (by omega), svl_get hk]
end Go.Proofs.YtchfpiadfmnphaaDoor
namespace Go.Proofs.YtchfpiadfmnphaaDoor
open Go.RowKit
set_option linter.unusedVariables false

/- The digits of a number ahead of a text. -/
def mks (k n : Nat) : List ByteArray := (List.range n).map fun i => mkT (k + i)
theorem mks_length (k n : Nat) : (mks k n).length = n := by unfold mks; rw [List.length_map, List.length_range]
theorem mks_get {k n i : Nat} (h : i < (mks k n).length) : (mks k n)[i] = mkT (k + i) := by simp [mks]
theorem mks_succ (k n : Nat) : mks k (n + 1) = mks k n ++ [mkT (k + n)] := by unfold mks; rw [List.range_succ, List.map_append]; rfl
theorem mks_set (k : Nat) (l : List ByteArray) {i : Nat} (h : i < l.length) : mks k (i + 1) ++ l.drop (i + 1) = (mks k i ++ l.drop i).set i (mkT (k + i)) := by
  rw [List.set_append_right _ _ (by rw [mks_length]; exact Nat.le_refl _), mks_length, Nat.sub_self, List.drop_eq_getElem_cons h, List.set_cons_zero, mks_succ, List.append_assoc]
  rfl
set_option maxRecDepth 100000 in
set_option maxHeartbeats 1000000 in
theorem markS_row (g c n k0 : Nat) (l : List ByteArray) (w : World) (hn : l.length = n) (h : RowV w g (svl l)) (hg : g < w.heap.size) (hb : n ≤ 1048576) (h1 : 1 ≤ k0) (h2 : k0 ≤ 1000000) :
    Calls Tryd.prog 33 #[.slice (some ⟨g, 0, none⟩) n c, .int .i64 (k0 : Int)] w fun e w' => e = .returned (.int .i64 ((k0 + n : Nat) : Int)) ∧ RowV w' g (svl (mks k0 n)) ∧ But g w w' := by
  have HN : Hid (l.length = n) := hn
  have HI1 : Hid (RowV w g (svl (mks k0 0 ++ l.drop 0))) := h
  clear h hn
  go_enter Tryd.func33, Tryd.ntmps33
  go_wp2_with fail
  go_loopw [1, 5] (fun vk i wr => ∃ k : Nat, i = .int .i64 (k : Int) ∧ vk = .int .i64 ((k0 + k : Nat) : Int) ∧ k ≤ n ∧ RowV wr g (svl (mks k0 k ++ l.drop k)) ∧ But g w wr) (fun _ i _ => n - (intOf i).toNat)
  case atStart => exact ⟨0, rfl, rfl, Nat.zero_le _, HI1.out, But.refl _ _⟩
  case round =>
    obtain ⟨k, rfl, rfl, hk, hI, hB⟩ := hrel
    have H8 : Hid (RowV wr g (svl (mks k0 k ++ l.drop k)) ∧ But g w wr) := ⟨hI, hB⟩
    by_cases hlt : k < n
    · have hkl : k < l.length := by have := HN.out; omega
      have hlen : k < (mks k0 k ++ l.drop k).length := by rw [List.length_append, mks_length, List.length_drop]; omega
      have hM : ∀ w0, Calls Tryd.prog 50 #[.int .i64 ((k0 + k : Nat) : Int)] w0 fun e w' => e = .returned (.string (mkT (k0 + k))) ∧ Below w0.heap.size w0 w' := fun w0 => mark_any (k0 + k) w0 (by omega) (by omega)
      have HS : Hid (True → mks k0 (k + 1) ++ l.drop (k + 1) = (mks k0 k ++ l.drop k).set k (mkT (k0 + k))) := fun _ => mks_set k0 l hkl
      have hgw : g < wr.heap.size := Nat.lt_of_lt_of_le hg hB.size
      generalize mkT (k0 + k) = x at *
      have lk : (k : Int) < n := by omega
      have l0 : (0 : Int) ≤ k := by omega
      have H9 : Hid (∀ w2, Below wr.heap.size wr w2 → ∃ y, w2.cell? ⟨g, k, none⟩ = some (.string y) ∧ w2.frozen? ⟨g, k, none⟩ = false ∧ RowV (w2.setCell ⟨g, k, none⟩ (.string x)) g (svl (mks k0 (k + 1) ++ l.drop (k + 1))) ∧ But g w (w2.setCell ⟨g, k, none⟩ (.string x))) := fun w2 b2 => by
        have r2 := H8.out.1.below b2 hgw
        exact ⟨_, r2.cell (svl_get hlen), r2.frozen (by rw [svl_length]; exact hlen), r2.setS hlen (HS.out trivial), (H8.out.2.trans (But.of b2)).trans (But.set g k w2 _)⟩
      clear hI hB hlen hkl H8 HI1 HS
      go_wp2_with (first
        | (go_at_call 50; refine (hM _).mono ?_; rintro e w1 ⟨rfl, hB1⟩; obtain ⟨y, cg, hfz, hR, hBt⟩ := H9.out w1 hB1; have HR : Hid _ := And.intro hR hBt; clear hR hBt))
      exact ⟨⟨k + 1, by go_num, by push_cast; go_num, hlt, HR.out.1, HR.out.2⟩, by simp [intOf]; omega⟩
    · obtain rfl : k = n := by omega
      have hd : l.drop k = [] := List.drop_of_length_le (by have := HN.out; omega)
      rw [hd, List.append_nil] at hI
      go_wp2
      go_ret
      exact ⟨rfl, hI, hB⟩
set_option maxRecDepth 100000 in
set_option maxHeartbeats 1000000 in
theorem markS_nil (a : Option Addr) (c k0 : Nat) (w : World) (h2 : k0 ≤ 1000000) :
    Calls Tryd.prog 33 #[.slice a 0 c, .int .i64 (k0 : Int)] w fun e w' => e = .returned (.int .i64 (k0 : Int)) ∧ w = w' := by
  go_enter Tryd.func33, Tryd.ntmps33
  go_wp2_with fail
  go_loopw [1, 5] (fun vk i wr => i = .int .i64 0 ∧ vk = .int .i64 (k0 : Int) ∧ w = wr) (fun _ _ _ => 0)
  case atStart => exact ⟨rfl, rfl, rfl⟩
  case round =>
    obtain ⟨rfl, rfl, rfl⟩ := hrel
    go_wp2
    go_ret
    exact ⟨rfl, rfl⟩
structure KpMs (w : World) (b o : Nat) (x : ByteArray) (w' : World) : Prop where
  cell : w'.cell? ⟨b, o, none⟩ = some (.string x)
  below : Below w.heap.size w w'
theorem KpMs.two {w w' : World} {b o : Nat} {x : ByteArray} (h : Hid (KpMs w b o x w')) : w'.cell? ⟨b, o, none⟩ = some (.string x) ∧ Hid (KpMs w b o x w') := ⟨h.out.cell, h⟩
theorem KpMs.drewN {w w' : World} {b o : Nat} {x : ByteArray} (h : Hid (KpMs w b o x w')) (n : Nat) : Hid (KpMs w b o x (w'.drewN n)) := ⟨h.out.cell, belowN h.out.below n⟩
theorem KpMs.hid {w w' w2 : World} {b o : Nat} {x : ByteArray} (h : Hid (KpMs w b o x w')) (h2 : Below w'.heap.size w' w2) : Hid (KpMs w b o x w2) :=
  ⟨(h2.cell (p := ⟨b, o, none⟩) (cellLt h.out.cell)).trans h.out.cell, h.out.below.trans (h2.mono h.out.below.size)⟩
set_option maxRecDepth 100000 in
set_option maxHeartbeats 1000000 in
theorem heldS_any (a : Option Addr) (c n k0 : Nat) (w : World) (h : SA w a (mks k0 n)) (hb : n ≤ 1048576) (h1 : 1 ≤ k0) (h2 : k0 ≤ 1000000) :
    Calls Tryd.prog 41 #[.slice a n c, .int .i64 (k0 : Int)] w fun e w' => e = .returned (.int .i64 ((k0 + n : Nat) : Int)) ∧ Below w.heap.size w w' := by
  have HA : Hid (SA w a (mks k0 n)) := h
  clear h
  go_enter Tryd.func41, Tryd.ntmps41
  go_wp2_with fail
  go_loopw [1, 5] (fun vk i wr => ∃ k : Nat, i = .int .i64 (k : Int) ∧ vk = .int .i64 ((k0 + k : Nat) : Int) ∧ k ≤ n ∧ Below w.heap.size w wr) (fun _ i _ => n - (intOf i).toNat)
  case atStart => exact ⟨0, rfl, rfl, Nat.zero_le _, Below.refl _ _⟩
  case round =>
    obtain ⟨k, rfl, rfl, hk, hB⟩ := hrel
    by_cases hlt : k < n
    · have hkl : k < (mks k0 n).length := by rw [mks_length]; exact hlt
      have hM : ∀ w0, Calls Tryd.prog 50 #[.int .i64 ((k0 + k : Nat) : Int)] w0 fun e w' => e = .returned (.string (mkT (k0 + k))) ∧ Below w0.heap.size w0 w' := fun w0 => mark_any (k0 + k) w0 (by omega) (by omega)
      obtain ⟨b, o, rfl, ca⟩ := HA.out.below hB k hkl
      rw [mks_get hkl] at ca
      generalize mkT (k0 + k) = x at *
      have HS : Hid (KpMs w b (o + k) x wr) := ⟨ca, hB⟩
      have t1 := txt_eq x
      have lk : (k : Int) < n := by omega
      have l0 : (0 : Int) ≤ k := by omega
      clear hB hkl HA
      go_wp2_with fail
      go_region_held3 (fun w' => w'.cell? ⟨b, o + k, none⟩ = some (.string x) ∧ Hid (KpMs w b (o + k) x w'))
        (first | exact KpMs.two HS | exact KpMs.two (KpMs.drewN HS _) | exact KpMs.two (KpMs.hid HS h6) | exact KpMs.two (KpMs.hid (KpMs.drewN HS _) h6))
        (first
          | (go_at_call 50; refine (hM _).mono ?_; rintro e w6 ⟨rfl, h6⟩))
      all_goals
        have HR : Hid (Below w.heap.size w w6) := (KpMs.hid (KpMs.drewN HS 1) h6).out.below
        clear HS h6 hM
        go_wp2
        exact ⟨⟨k + 1, by go_num, by push_cast; go_num, hlt, HR.out⟩, by simp [intOf]; omega⟩
    · obtain rfl : k = n := by omega
      go_wp2
      go_ret
      exact ⟨rfl, hB⟩
end Go.Proofs.YtchfpiadfmnphaaDoor
