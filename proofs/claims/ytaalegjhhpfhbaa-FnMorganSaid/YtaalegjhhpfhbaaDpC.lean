/- A drawn policy. -/
import Derived.Test.YtaalegjhhpfhbaaDpB
namespace Go.Proofs.Ytaalegjhhpfhbaa
open Go.RowKit
set_option linter.unusedVariables false

def Pol11 (g len cap : Nat) (sa : Option Addr) (w : World) (r : Ending) (w' : World) : Prop := (∃ (a : Option Addr) (n c : Nat) (l : List InsV), r = .returned (.slice a n c) ∧ (l.length = n ∧ n ≤ 100 ∧ ∀ x ∈ l, x.w) ∧ Made w w' (fun w2 => InsAt w2 a l) ∧ SrcAt w' g sa len cap ∧ w.grownBy w' (some g))
theorem Pol11.mk {g len cap : Nat} {sa : Option Addr} {w : World} {r : Ending} {w' : World} (h : (∃ (a : Option Addr) (n c : Nat) (l : List InsV), r = .returned (.slice a n c) ∧ (l.length = n ∧ n ≤ 100 ∧ ∀ x ∈ l, x.w) ∧ Made w w' (fun w2 => InsAt w2 a l) ∧ SrcAt w' g sa len cap ∧ w.grownBy w' (some g))) : Pol11 g len cap sa w r w' := h
def lenV : Value → Nat
  | .slice _ n _ => n
  | _ => 0
theorem InsO.forms {w : World} {base : Nat} {v : Value} {l : List InsV} (h : InsO w base v l) : (v = .slice none 0 0 ∧ l = []) ∨ ∃ g c n, l.length = n ∧ v = .slice (some ⟨g, 0, none⟩) n c ∧ n ≤ c := by
  rcases h.2 with ⟨h0, hn⟩ | ⟨g, cap, cur, hv, hbg, hg, h1, h2, h3, h4⟩
  · exact Or.inl ⟨h0, List.eq_nil_of_length_eq_zero hn⟩
  · exact Or.inr ⟨g, cap, _, rfl, hv, h1⟩
theorem wpList_setIns {ops : Array Oper} {rest : List Oper} {o : Oper} {a : Act} {w : World} {Q : Exit → Act → World → Prop} (hg : o.guard = none) (x y : Operand) (ho : o.op = .store 9 x y) (base g n c j : Nat) (l l' : List InsV) (t : ByteArray) (ex : a.eval x = .pointer (some ⟨g, 1, none⟩)) (ey : a.eval y = .string t)
    (hown : InsO w base (.slice (some ⟨g, 0, none⟩) n c) l) (hj : 0 < l.length) (hl' : ∃ (x : InsV) (r : List InsV), l = x :: r ∧ l' = ⟨x.op, t, x.val⟩ :: r) (h : ∀ w', InsO w' base (.slice (some ⟨g, 0, none⟩) n c) l' → w.grownBy w' (Value.slice (some ⟨g, 0, none⟩) n c).ownBlock → wpList Try.prog ops Q rest (a.put o.dst undef) w') : wpList Try.prog ops Q (o :: rest) a w := by
  obtain ⟨x0, r, rfl, rfl⟩ := hl'
  have hn := (InsO.row hown).2.2
  subst hn
  have hst := World.ownsRow.stored hown 1 (.string t)
  have hc : w.cell? ⟨g, 1, none⟩ = some (.string x0.key) := by
    rw [World.ownsRow.cellAt hown 1 (by simp; omega)]
    rfl
  have hf : w.frozen? ⟨g, 1, none⟩ = false := World.ownsRow.frozenAt hown 1
  have hh := h _ (show InsO _ _ _ (⟨x0.op, t, x0.val⟩ :: r) from hst.1) hst.2
  obtain ⟨ti, hti, _, hts, _⟩ := info_parts Try.infoStr
  refine wpList_plain hg fun K hK => ?_
  have hk := hK _ _ hh
  simp only [Oper.wp, execOp, ho, ex, ey, Instr.storeAt, Instr.sureAddr, Sem.run_bind, Sem.run_pure, Result.andThen_ok]
  simp [go_sem, hc, hf, hti, hts, storeCells, sizeOf, typeInfo]
  exact hk
set_option maxRecDepth 100000 in
theorem Try.sliceHiI1 (b n c : Nat) (h : 0 < n) (hc : n ≤ c) : ∃ ad, (∀ w, (Instr.slice 25 (.slice (some ⟨b, 0, none⟩) n c) (some (.int .i64 1)) none none).run Try.prog w = .ok (.slice ad (n - 1) (c - 1)) w) ∧ (1 < n → ad = some ⟨b, 3, none⟩) := by
  have h1 : (1 : Int) ≤ n := by omega
  have h3 : (Try.prog.info? 41).map (fun i => (i.zero, i.size, i.bytes)) = some (some (.agg #[.int .i64 0, .string ⟨#[]⟩, .string ⟨#[]⟩]), 3, 40) := by kernel_rfl
  obtain ⟨i0, hi, hz0, hz1, hz2⟩ := info_parts h3
  by_cases hk : 1 < c
  · refine ⟨some ⟨b, 3, none⟩, fun w => ?_, fun _ => rfl⟩
    simp [Instr.slice, run_underlying Try.underlying25, Instr.sliceBounds, run_sliceBound, h1, show ¬ c = 1 by omega, Addr.add_lit, sizeOf, typeInfo, hi, hz1]
  · obtain rfl : c = 1 := by omega
    obtain rfl : n = 1 := by omega
    refine ⟨some ⟨b, 0, none⟩, fun w => ?_, fun e => absurd e (by omega)⟩
    simp [Instr.slice, run_underlying Try.underlying25, Instr.sliceBounds, run_sliceBound]
theorem ins_tail {w : World} {b n : Nat} {ad : Option Addr} {y : InsV} {r : List InsV} (hz : 1 < n → ad = some ⟨b, 3, none⟩) (h : InsAt w (some ⟨b, 0, none⟩) (y :: r)) (hn : r.length + 1 = n) : InsAt w ad r := fun i hi => by
  obtain ⟨b', o', e, h2, h3, h4⟩ := h (i + 1) (by simp; omega)
  injection e with e
  injection e with e1 e2
  subst e1 e2
  refine ⟨b, 3, hz (by omega), ?_, ?_, ?_⟩
  · have e3 : 0 + (i + 1) * 3 = 3 + i * 3 := by omega
    rw [e3] at h2
    exact h2
  · have e3 : 0 + (i + 1) * 3 + 1 = 3 + i * 3 + 1 := by omega
    rw [e3] at h3
    exact h3
  · have e3 : 0 + (i + 1) * 3 + 2 = 3 + i * 3 + 2 := by omega
    rw [e3] at h4
    exact h4
set_option maxRecDepth 100000 in
set_option maxHeartbeats 32000000 in
theorem policy11 (g len cap : Nat) (sa : Option Addr) (w : World) (hs : SrcAt w g sa len cap) :
    Calls Try.prog 58 #[.pointer (some ⟨g, 0, none⟩)] w fun r w' => Pol11 g len cap sa w r w' := by
  have HgB : Hid (g < w.heap.size) := hs.room
  have HgG : Hid (g ∈ [g] ∨ w.heap.size ≤ g) := Or.inl (by simp)
  have hC1 : ∀ w0, (SrcAt w0 g sa len cap) → Calls Try.prog 77 #[.pointer (some ⟨g, 0, none⟩), .int .i64 5] w0 fun r w' => ∃ (q1 : Int), r = .returned (.int .i64 q1) ∧ (0 ≤ q1 ∧ q1 < 5) ∧ SrcAt w' g sa len cap ∧ w0.grownBy w' (some g) := fun w0 n0 => (n_any g len cap sa _ w0 n0 (by decide) (by decide)).mono fun r w' ⟨v, h1, h2, h3, h4, h5⟩ => ⟨v, h1, ⟨h2, h3⟩, h4, h5⟩
  have hC2 : ∀ w0 (q1 : Int), (Hid (Sta [g] w [] [⟨fun k => (Value.slice (some ⟨w.heap.size, 0, none⟩) 0 0).ownBlock = some k, fun w' => InsO w' w.heap.size (.slice (some ⟨w.heap.size, 0, none⟩) 0 0) ([])⟩, ⟨fun k => k < w.heap.size, fun w' => SrcAt w' g sa len cap⟩] w0)) → (g < w.heap.size) → (0 ≤ q1 ∧ q1 < 5) → Calls Try.prog 103 #[.pointer (some ⟨g, 0, none⟩), .slice (some ⟨w.heap.size, 0, none⟩) 0 0, .int .i64 q1] w0 fun r w' => ∃ (v1 : Value) (l1 : List InsV), r = .returned (v1) ∧ (l1.length ≤ 31 ∧ (∀ x ∈ l1, x.w) ∧ 0 < l1.length) ∧ Hid (Sta [g] w [] [⟨fun k => (v1).ownBlock = some k, fun w' => InsO w' w.heap.size (v1) l1⟩, ⟨fun k => k < w.heap.size, fun w' => SrcAt w' g sa len cap⟩] w') := fun w0 q1 n0 n1 n2 => (putAll 4 g len cap w.heap.size sa _ [] q1 w w0 n0 n1 (by decide) (fun x hx => by cases hx) (by omega)).mono fun r w' ⟨v', l', h1, h2, h3⟩ => ⟨v', l', h1, ⟨by have := h2.1; simpa [F11] using this, h2.2.1, by have := h2.2.2; simpa using this⟩, h3⟩
  have hC3 : ∀ w0, (SrcAt w0 g sa len cap) → Calls Try.prog 78 #[.pointer (some ⟨g, 0, none⟩), .int .i64 20] w0 fun r w' => ∃ (bb : Bool), r = .returned (.bool bb) ∧ SrcAt w' g sa len cap ∧ w0.grownBy w' (some g) := fun w0 n0 => (one_any g len cap sa _ w0 n0 (by decide) (by decide)).mono fun r w' ⟨b, h⟩ => ⟨b, h.out.1, h.out.2.1, h.out.2.2⟩
  have hC4 : ∀ w0, (SrcAt w0 g sa len cap) → Calls Try.prog 77 #[.pointer (some ⟨g, 0, none⟩), .int .i64 4] w0 fun r w' => ∃ (q2 : Int), r = .returned (.int .i64 q2) ∧ (0 ≤ q2 ∧ q2 < 4) ∧ SrcAt w' g sa len cap ∧ w0.grownBy w' (some g) := fun w0 n0 => (n_any g len cap sa _ w0 n0 (by decide) (by decide)).mono fun r w' ⟨v, h1, h2, h3, h4, h5⟩ => ⟨v, h1, ⟨h2, h3⟩, h4, h5⟩
  have hC5 : ∀ w0, (SrcAt w0 g sa len cap) → Calls Try.prog 77 #[.pointer (some ⟨g, 0, none⟩), .int .i64 8] w0 fun r w' => ∃ (q3 : Int), r = .returned (.int .i64 q3) ∧ (0 ≤ q3 ∧ q3 < 8) ∧ SrcAt w' g sa len cap ∧ w0.grownBy w' (some g) := fun w0 n0 => (n_any g len cap sa _ w0 n0 (by decide) (by decide)).mono fun r w' ⟨v, h1, h2, h3, h4, h5⟩ => ⟨v, h1, ⟨h2, h3⟩, h4, h5⟩
  have hC6 : ∀ w0, (SrcAt w0 g sa len cap) → Calls Try.prog 77 #[.pointer (some ⟨g, 0, none⟩), .int .i64 3] w0 fun r w' => ∃ (q3 : Int), r = .returned (.int .i64 q3) ∧ (0 ≤ q3 ∧ q3 < 3) ∧ SrcAt w' g sa len cap ∧ w0.grownBy w' (some g) := fun w0 n0 => (n_any g len cap sa _ w0 n0 (by decide) (by decide)).mono fun r w' ⟨v, h1, h2, h3, h4, h5⟩ => ⟨v, h1, ⟨h2, h3⟩, h4, h5⟩
  have HS0 : Hid (Sta [g] w [] [⟨fun k => k < w.heap.size, fun w' => SrcAt w' g sa len cap⟩] w) := Sta.srcRecv hs
  clear hs
  go_enter Try.func58, Try.ntmps58
  · skip
    have HS1 : Hid (Sta [g] w [] [⟨fun k => (Value.slice none 0 0).ownBlock = some k, fun w' => InsO w' w.heap.size (.slice none 0 0) ([])⟩, ⟨fun k => k < w.heap.size, fun w' => SrcAt w' g sa len cap⟩] w) := Sta.own0 w.heap.size 41 3 HS0
    have hO2 := World.ownsRow_made (base := w.heap.size) (size := 3) (e := 41) w #[] 0 (Sta.size HS1) (by decide) (by simp)
    have hG2 := World.grownBy_alloc w (.cells #[] 41) (Value.slice none 0 0).ownBlock
    have HS2 := Sta.app 0 HS1 rfl (Nat.le_refl _) hO2 hG2 (Or.inr rfl)
    clear hO2 hG2
    go_wp2_with (first
      | (go_at_call 77; have n3_0 : SrcAt (w.alloc (.cells #[] 41)) g sa len cap := (Sta.t (i := 1) HS2 rfl :); (with_reducible refine (hC1 (w.alloc (.cells #[] 41)) n3_0).mono ?_); rintro r w3 ⟨q1, rfl, u1, hS3, hG3⟩; have Hu1 := hidP u1; clear u1; have HS3 := Sta.src 1 HS2 rfl hG3 hS3 HgB.out HgG.out; clear hS3 hG3)
      | (go_at_call 103; have n4_s : Hid (Sta [g] w [] [⟨fun k => (Value.slice (some ⟨w.heap.size, 0, none⟩) 0 0).ownBlock = some k, fun w' => InsO w' w.heap.size (.slice (some ⟨w.heap.size, 0, none⟩) 0 0) ([])⟩, ⟨fun k => k < w.heap.size, fun w' => SrcAt w' g sa len cap⟩] w3) := HS3; (with_reducible refine (hC2 w3 q1 n4_s HgB.out Hu1.out).mono ?_); rintro r w4 ⟨v1, l1, rfl, b1, HS4⟩; have Hb1 := hidP b1; clear b1))
    have n5_0 : SrcAt w4 g sa len cap := (Sta.t (i := 1) HS4 rfl :)
    refine (hC3 w4 n5_0).mono ?_
    rintro r w5 ⟨bb, rfl, hS5, hG5⟩
    have HS5 := Sta.src 1 HS4 rfl hG5 hS5 HgB.out HgG.out
    clear hS5 hG5
    cases bb
    · as_aux_lemma =>
      go_wp2_with fail
      go_ret
      exact Pol11.mk (by obtain ⟨a9, m9, c9, hl9, rfl⟩ := InsO.form (Sta.t (i := 0) HS5 rfl : InsO _ _ _ _); exact ⟨a9, m9, c9, l1, rfl, ⟨hl9, by have := Hb1.out.1; omega, Hb1.out.2.1⟩, (Sta.made_of (i := 0) HS5 rfl (fun k hk => (own_ge (Sta.t (i := 0) HS5 rfl : InsO _ _ _ _) hk).1)).imp (fun w2 h2 => (InsO.row h2).1.ins), (Sta.t (i := 1) HS5 rfl :), Sta.grown HS5⟩)
    · as_aux_lemma =>
      go_wp2_with fail
      have n6_0 : SrcAt w5 g sa len cap := (Sta.t (i := 1) HS5 rfl :)
      refine (hC4 w5 n6_0).mono ?_
      rintro r w6 ⟨q2, rfl, u2, hS6, hG6⟩
      have Hu2 := hidP u2
      clear u2
      have HS6 := Sta.src 1 HS5 rfl hG6 hS6 HgB.out HgG.out
      clear hS6 hG6
      obtain rfl | rfl | rfl | rfl : q2 = 0 ∨ q2 = 1 ∨ q2 = 2 ∨ q2 = 3 := (by have := Hu2.out; omega)
      · as_aux_lemma =>
        go_wp2_with (first
          | (go_at_call 77; have n7_0 : SrcAt w6 g sa len cap := (Sta.t (i := 1) HS6 rfl :); (with_reducible refine (hC5 w6 n7_0).mono ?_); rintro r w7 ⟨q3, rfl, u3, hS7, hG7⟩; have Hu3 := hidP u3; clear u3; have HS7 := Sta.src 1 HS6 rfl hG7 hS7 HgB.out HgG.out; clear hS7 hG7; have ewq : IntKind.i64.wrap (q3 - 1) = q3 - 1 := (by have := Hu3.out; simp [IntKind.wrap, IntKind.signed, IntKind.bits]; omega))
          | ((with_reducible refine wpList_buildIns (w := w7) (by with_unfolding_all rfl) (.tmp 29) (by with_unfolding_all rfl) (q3 - 1) (⟨#[]⟩) (⟨#[]⟩) (by with_unfolding_all rfl) ?_); intro w8 hA8 hB8; have HS8 := Sta.new HS7 hA8 hB8 (by simp [insv]); clear hA8 hB8)
          | ((with_reducible refine wpList_appendIns (W := w8) (by with_unfolding_all rfl) (.tmp 25) (.tmp 30) (by with_unfolding_all rfl) w.heap.size (v1) l1 ⟨(q3 - 1), ⟨#[]⟩, ⟨#[]⟩⟩ (by with_unfolding_all rfl) (Sta.t (i := 0) HS8 rfl) w7.heap.size (by with_unfolding_all rfl) (Sta.r (i := 0) HS8 (by with_unfolding_all rfl)) (by have := Hb1.out.1; first | omega | (have h1 := HMm.out; have h2 := HYs.out.1; omega)) (Sta.size HS8) ?_); intro v9 w9 hO9 hG9 hb9; obtain ⟨a9, m9, c9, hm9, rfl⟩ := InsO.form hO9; have HS9 := Sta.app 0 HS8 rfl (Nat.le_refl _) hO9 hG9 hb9; have Hm9 := hidP hm9; clear hO9 hG9 hb9 hm9))
        go_ret
        exact Pol11.mk (⟨_, _, _, (l1 ++ ([⟨(q3 - 1), ⟨#[]⟩, ⟨#[]⟩⟩] : List InsV)), rfl, ⟨Hm9.out, by have := Hm9.out; have := Hb1.out.1; simp at *; omega, fun x hx => by rcases List.mem_append.1 hx with h | h; exact Hb1.out.2.1 x h; rw [List.mem_singleton.1 h]; exact ins_w (by have := Hu3.out; omega) (by have := Hu3.out; omega) (by decide) (by decide)⟩, (Sta.made_of (i := 0) HS9 rfl (fun k hk => (own_ge (Sta.t (i := 0) HS9 rfl : InsO _ _ _ _) hk).1)).imp (fun w2 h2 => (InsO.row h2).1.ins), (Sta.t (i := 1) HS9 rfl :), Sta.grown HS9⟩)
      · as_aux_lemma =>
        have hfm := InsO.forms (Sta.t (i := 0) HS6 rfl : InsO _ _ v1 l1)
        obtain ⟨B9, c9, m9, hl9, rfl, hmc⟩ : ∃ B9 c9 m9, l1.length = m9 ∧ v1 = .slice (some ⟨B9, 0, none⟩) m9 c9 ∧ m9 ≤ c9 := by
          rcases hfm with ⟨_, h0⟩ | ⟨g9, c', n', h1, h2, h3⟩
          · have := Hb1.out.2.2; rw [h0] at this; cases this
          · exact ⟨g9, c', n', h1, h2, h3⟩
        obtain ⟨y9, r9, rfl⟩ : ∃ y r, l1 = y :: r := by cases l1 with | nil => exact absurd Hb1.out.2.2 (Nat.lt_irrefl _) | cons y r => exact ⟨y, r, rfl⟩
        have l00 : (0 : Int) < (m9 : Int) := by simp at hl9; omega
        have l00n : 0 < m9 := by simp at hl9; omega
        have HL9 := hidP hl9
        clear hl9 hmc hfm
        · skip
          go_wp2_with (first
            | (have HS10a := Sta.imp 0 (fun w' => InsO w' w.heap.size (.slice (some ⟨B9, 0, none⟩) m9 c9) (y9 :: r9)) HS6 rfl (fun w' h => h); (with_reducible refine wpList_setIns (w := w6) (by with_unfolding_all rfl) (.tmp 36) (.const (.string ⟨#[65]⟩)) (by with_unfolding_all rfl) w.heap.size B9 m9 c9 0 (y9 :: r9) (⟨y9.op, ⟨#[65]⟩, y9.val⟩ :: r9) (⟨#[65]⟩) (by with_unfolding_all rfl) (by with_unfolding_all rfl) (Sta.t (i := 0) HS10a rfl) (Nat.succ_pos _) ⟨y9, r9, rfl, rfl⟩ ?_); intro w10 hO10 hG10; have HS10 := Sta.app 0 HS10a rfl (Nat.le_refl _) hO10 hG10 (Or.inl rfl); clear hO10 hG10 HS10a))
          go_ret
          exact Pol11.mk (⟨some ⟨B9, 0, none⟩, m9, c9, (⟨y9.op, ⟨#[65]⟩, y9.val⟩ :: r9), rfl, ⟨HL9.out, by have := HL9.out; have := Hb1.out.1; omega, fun x hx => by rcases List.mem_cons.1 hx with h | h; subst h; exact ⟨(Hb1.out.2.1 y9 (List.mem_cons_self ..)).1, (show (1 : Nat) ≤ maxLen by decide), (Hb1.out.2.1 y9 (List.mem_cons_self ..)).2.2⟩; exact Hb1.out.2.1 x (List.mem_cons_of_mem _ h)⟩, (Sta.made_of (i := 0) HS10 rfl (fun k hk => (own_ge (Sta.t (i := 0) HS10 rfl : InsO _ _ _ _) hk).1)).imp (fun w2 h2 => (InsO.row h2).1.ins), (Sta.t (i := 1) HS10 rfl :), Sta.grown HS10⟩)
      · as_aux_lemma =>
        have hfm := InsO.forms (Sta.t (i := 0) HS6 rfl : InsO _ _ v1 l1)
        obtain ⟨B9, c9, m9, hl9, rfl, hmc⟩ : ∃ B9 c9 m9, l1.length = m9 ∧ v1 = .slice (some ⟨B9, 0, none⟩) m9 c9 ∧ m9 ≤ c9 := by
          rcases hfm with ⟨_, h0⟩ | ⟨g9, c', n', h1, h2, h3⟩
          · have := Hb1.out.2.2; rw [h0] at this; cases this
          · exact ⟨g9, c', n', h1, h2, h3⟩
        obtain ⟨y9, r9, rfl⟩ : ∃ y r, l1 = y :: r := by cases l1 with | nil => exact absurd Hb1.out.2.2 (Nat.lt_irrefl _) | cons y r => exact ⟨y, r, rfl⟩
        have l00 : (0 : Int) < (m9 : Int) := by simp at hl9; omega
        have l00n : 0 < m9 := by simp at hl9; omega
        have HL9 := hidP hl9
        obtain ⟨ad9, s9, hz9⟩ := Try.sliceHiI1 B9 m9 c9 l00n hmc
        have HZ9 := hidP hz9
        clear hz9
        clear hl9 hmc hfm
        · skip
          go_wp2_with fail
          go_ret
          exact Pol11.mk (⟨_, _, _, r9, rfl, ⟨by have := HL9.out; simp at this; omega, by have := HL9.out; have := Hb1.out.1; omega, fun x hx => Hb1.out.2.1 x (List.mem_cons_of_mem _ hx)⟩, (Sta.made_of (i := 0) HS6 rfl (fun k hk => (own_ge (Sta.t (i := 0) HS6 rfl : InsO _ _ _ _) hk).1)).imp (fun w2 h2 => ins_tail HZ9.out (InsO.row h2).1.ins (by have := HL9.out; simp at this; omega)), (Sta.t (i := 1) HS6 rfl :), Sta.grown HS6⟩)
      · as_aux_lemma =>
        obtain ⟨a9, m9, c9, hl9, rfl⟩ := InsO.form (Sta.t (i := 0) HS6 rfl : InsO _ _ v1 l1)
        have HL9 := hidP hl9
        clear hl9
        go_wp2_with fail
        go_loopw [3] (fun v0 wr => ∃ (k : Nat) (aa : Option Addr) (mm : Nat) (ca : Nat) (ys : List InsV), v0 = .slice aa mm ca ∧ k ≤ 62 ∧ Hid (ys.length = mm ∧ (∀ x ∈ ys, x.w) ∧ (mm ≤ 62 ∨ k = 0)) ∧ Hid (mm = m9 + k ∧ mm ≤ 100) ∧ Hid (Sta [g] w [] [⟨fun k => (Value.slice aa mm ca).ownBlock = some k, fun w' => InsO w' w.heap.size (.slice aa mm ca) ys⟩, ⟨fun k => k < w.heap.size, fun w' => SrcAt w' g sa len cap⟩] wr)) (fun v0 _ => 200 - lenV v0)
        case atStart => exact ⟨0, a9, m9, c9, l1, rfl, Nat.zero_le _, ⟨HL9.out, Hb1.out.2.1, Or.inr rfl⟩, ⟨rfl, by have := HL9.out; have := Hb1.out.1; omega⟩, HS6⟩
        case round =>
          rename Go.World => wl11
          clear HS6
          obtain ⟨k, aa, mm, ca, ys, rfl, hk11, HYs, HMm, HS11⟩ := hrel
          by_cases hlt11 : k < 62
          case neg =>
            obtain rfl : 62 = k := by omega
            go_wp2_with (first
              | (go_at_call 77; have n12_0 : SrcAt wl11 g sa len cap := (Sta.t (i := 1) HS11 rfl :); (with_reducible refine (hC6 wl11 n12_0).mono ?_); rintro r w12 ⟨q3, rfl, u3, hS12, hG12⟩; have Hu3 := hidP u3; clear u3; have HS12 := Sta.src 1 HS11 rfl hG12 hS12 HgB.out HgG.out; clear hS12 hG12; have ewq : IntKind.i64.wrap (59 + q3) = 59 + q3 := (by have := Hu3.out; simp [IntKind.wrap, IntKind.signed, IntKind.bits]; omega); have dc : decide ((mm : Int) < 59 + q3) = false := decide_eq_false (by have := Hu3.out; have := HMm.out; omega)))
            go_ret
            exact Pol11.mk (⟨aa, mm, ca, ys, rfl, ⟨HYs.out.1, HMm.out.2, HYs.out.2.1⟩, (Sta.made_of (i := 0) HS12 rfl (fun k hk => (own_ge (Sta.t (i := 0) HS12 rfl : InsO _ _ _ _) hk).1)).imp (fun w2 h2 => (InsO.row h2).1.ins), (Sta.t (i := 1) HS12 rfl :), Sta.grown HS12⟩)
          have lk11 : (k : Int) < 62 := by omega
          have l011 : (0 : Int) ≤ k := by omega
          go_wp2_with fail
          have n13_0 : SrcAt wl11 g sa len cap := (Sta.t (i := 1) HS11 rfl :)
          refine (hC6 wl11 n13_0).mono ?_
          rintro r w13 ⟨q3, rfl, u3, hS13, hG13⟩
          have Hu3 := hidP u3
          clear u3
          have HS13 := Sta.src 1 HS11 rfl hG13 hS13 HgB.out HgG.out
          clear hS13 hG13
          by_cases hc : (mm : Int) < 59 + q3
          · as_aux_lemma =>
            have ewq : IntKind.i64.wrap (59 + q3) = 59 + q3 := (by have := Hu3.out; simp [IntKind.wrap, IntKind.signed, IntKind.bits]; omega)
            have dc : decide ((mm : Int) < 59 + q3) = true := decide_eq_true hc
            have hm62 : mm < 62 := by have := Hu3.out; omega
            go_wp2_with (first
              | ((with_reducible refine wpList_buildIns (w := w13) (by with_unfolding_all rfl) (.tmp 20) (by with_unfolding_all rfl) 3 (⟨#[]⟩) (⟨#[]⟩) (by with_unfolding_all rfl) ?_); intro w14 hA14 hB14; have HS14 := Sta.new HS13 hA14 hB14 (by simp [insv]); clear hA14 hB14)
              | ((with_reducible refine wpList_appendIns (W := w14) (by with_unfolding_all rfl) (.tmp 19) (.tmp 21) (by with_unfolding_all rfl) w.heap.size (.slice aa mm ca) ys ⟨3, ⟨#[]⟩, ⟨#[]⟩⟩ (by with_unfolding_all rfl) (Sta.t (i := 0) HS14 rfl) w13.heap.size (by with_unfolding_all rfl) (Sta.r (i := 0) HS14 (by with_unfolding_all rfl)) (by have := Hb1.out.1; first | omega | (have h1 := HMm.out; have h2 := HYs.out.1; omega)) (Sta.size HS14) ?_); intro v15 w15 hO15 hG15 hb15; obtain ⟨a15, m15, c15, hm15, rfl⟩ := InsO.form hO15; have HS15 := Sta.app 0 HS14 rfl (Nat.le_refl _) hO15 hG15 hb15; have Hm15 := hidP hm15; clear hO15 hG15 hb15 hm15))
            go_roundw
            case rel => exact ⟨k + 1, a15, m15, c15, ((ys ++ ([⟨3, ⟨#[]⟩, ⟨#[]⟩⟩] : List InsV))), by go_num, hlt11, ⟨Hm15.out, fun x hx => by rcases List.mem_append.1 hx with h | h; exact HYs.out.2.1 x h; rw [List.mem_singleton.1 h]; exact ins_w (by decide) (by decide) (by decide) (by decide), Or.inl (by have := Hm15.out; have := HYs.out.1; simp at *; omega)⟩, ⟨by have := Hm15.out; have := HYs.out.1; have := HMm.out.1; simp at *; omega, by have := Hm15.out; have := HYs.out.1; simp at *; omega⟩, Sta.drop 1 0 HS15⟩
            case measure => (show 200 - m15 < 200 - mm; have := Hm15.out; have := HYs.out.1; simp at *; omega)
          have ewq : IntKind.i64.wrap (59 + q3) = 59 + q3 := (by have := Hu3.out; simp [IntKind.wrap, IntKind.signed, IntKind.bits]; omega)
          have dc : decide ((mm : Int) < 59 + q3) = false := decide_eq_false hc
          go_wp2_with fail
          go_ret
          exact Pol11.mk (⟨aa, mm, ca, ys, rfl, ⟨HYs.out.1, HMm.out.2, HYs.out.2.1⟩, (Sta.made_of (i := 0) HS13 rfl (fun k hk => (own_ge (Sta.t (i := 0) HS13 rfl : InsO _ _ _ _) hk).1)).imp (fun w2 h2 => (InsO.row h2).1.ins), (Sta.t (i := 1) HS13 rfl :), Sta.grown HS13⟩)
end Go.Proofs.Ytaalegjhhpfhbaa
