/- HashMore of both sides, for every Hash and every text. -/
import Derived.Test.YthmlfohgbkkbjaaDoorDig
import Derived.Test.YthmlfohgbkkbjaaDoorTwo
namespace Go.Proofs.YthmlfohgbkkbjaaDoor
open Go.RowKit
set_option linter.unusedVariables false
attribute [local go_sem ↓] Go.wp_at_zero Go.wp_at_succ

/- A row of numbers that lies in new memory. -/
structure New (B : Nat) (w : World) (a : Option Addr) (l : List Int) : Prop where
  iat : IAt w a l
  new : ∀ ad, a = some ad → B ≤ ad.block ∧ ad.block < w.heap.size
theorem New.below {B : Nat} {w w' : World} {a : Option Addr} {l : List Int} (h : New B w a l) (hb : Below w.heap.size w w') : New B w' a l :=
  ⟨h.iat.below hb, fun ad e => ⟨(h.new ad e).1, Nat.lt_of_lt_of_le (h.new ad e).2 hb.size⟩⟩
theorem New.mono {B B' : Nat} {w : World} {a : Option Addr} {l : List Int} (h : New B w a l) (hB : B' ≤ B) : New B' w a l :=
  ⟨h.iat, fun ad e => ⟨Nat.le_trans hB (h.new ad e).1, (h.new ad e).2⟩⟩
theorem New.sets {B b : Nat} {w : World} {a : Option Addr} {l : List Int} (h : New B w a l) (hb : b < B) (vs : List Value) : New B (w.setCells b 0 vs) a l := by
  refine ⟨fun hl => ?_, fun ad e => ⟨(h.new ad e).1, by rw [setCells_size]; exact (h.new ad e).2⟩⟩
  obtain ⟨g, hg, hc⟩ := h.iat hl
  have hne : g ≠ b := by have := (h.new _ hg).1; show g ≠ b; simp at this; omega
  exact ⟨g, hg, fun j hj => ⟨(World.cell?_setCells_out b vs 0 w _ (fun e => absurd e hne)).trans (hc j hj).1, by rw [World.frozen?_setCells]; exact (hc j hj).2⟩⟩
theorem own_nil {w : World} {base e : Nat} : w.ownsRow base e 1 (.slice none 0 0) 0 [] := ⟨rfl, .inl ⟨rfl, rfl⟩⟩
theorem wp_append_row {W : World} {o : Oper} {a : Act} {K : Act → World → Prop} {Q : Exit → Act → World → Prop} (s x : Operand) (ho : o.op = .call { callee := .builtin .append, args := #[s, x], argTypes := #[25, 25] })
    (base : Nat) (v : Value) (hs : a.eval s = v) (hown : W.ownsRow base 2 1 v 0 []) (g c n : Nat) (l : List Int) (hn : l.length = n) (hx : a.eval x = .slice (some ⟨g, 0, none⟩) n c) (hI : IAt W (some ⟨g, 0, none⟩) l) (hb : n ≤ 1048576) (hbase : base ≤ W.heap.size)
    (h : ∀ a2 c2 w', New base w' a2 l → Below base W w' → K (a.put o.dst (.slice a2 n c2)) w') : Oper.wp Tryd.prog o a W K Q := by
  obtain ⟨i0, hi, hz0, hz1, hz2⟩ := info_parts Tryd.infoNum
  obtain ⟨v', w', hr, h2, h3, h4⟩ := run_append_own_at (P := Tryd.prog) W base 25 o.type 2 i0 (.int .i64 0) 1 8 Tryd.underlying25 hi hz0 hz1 hz2 rfl (by decide) v 0 [] hown ⟨g, 0, none⟩ n c (l.map (Value.int .i64)) (by simp [hn])
    (fun j u hj => by
      obtain ⟨hj1, hj2⟩ := List.getElem?_eq_some_iff.1 hj
      have hjl : j < l.length := by simpa using hj1
      have he : (⟨g, 0, none⟩ : Addr).add j = ⟨g, j, none⟩ := by unfold Addr.add; split <;> simp_all
      obtain ⟨g', hg', hc⟩ := hI (by intro e; rw [e] at hjl; simp at hjl)
      injection hg' with hg'
      injection hg' with hg'
      subst hg'
      rw [he, (hc j hjl).1, ← hj2, List.getElem_map])
    (by intro u hu; obtain ⟨b, _, rfl⟩ := List.mem_map.1 hu; rfl) (by unfold maxLen; omega) (by omega) hbase
  rw [Nat.zero_add, List.nil_append] at h2
  have hB : Below base W w' := (Below.refl base W).grown h3 hbase (fun k hk => (hown.lt k hk).1)
  unfold Oper.wp execOp
  simp only [ho, resolve, invoke, builtin, Sem.run_bind, Sem.run_pure, Result.andThen_ok, List.map_toArray, List.map_cons, List.map_nil, hs, hx, hr]
  rcases h2.2 with ⟨rfl, h0⟩ | ⟨g2, cap, cur, rfl, hbg, _⟩
  · subst h0
    have : l = [] := by cases l with | nil => rfl | cons _ _ => simp at hn
    subst this
    exact h none 0 w' ⟨fun hl => absurd rfl hl, fun ad e => by cases e⟩ hB
  · refine h (some ⟨g2, 0, none⟩) cap w' ⟨fun hl => ⟨g2, rfl, fun k hk => ⟨?_, h2.frozenAt k⟩⟩, fun ad e => by injection e with e; subst e; exact ⟨hbg, (h2.lt g2 rfl).2⟩⟩ hB
    rw [h2.cellAt k (by omega), List.getElem?_map, List.getElem?_eq_getElem hk]
    rfl

set_option maxRecDepth 100000 in
set_option maxHeartbeats 1000000 in
theorem ownHash_any (g c n : Nat) (l : List Int) (s : ByteArray) (z : Int) (w : World) (hn : l.length = n) (h : IAt w (some ⟨g, 0, none⟩) l) (hb : n ≤ 1048576) :
    Calls Tryd.prog 32 #[HVal (some ⟨g, 0, none⟩) n c s z] w fun e w' => ∃ a2 c2, e = .returned (HVal a2 n c2 s z) ∧ New w.heap.size w' a2 l ∧ Below w.heap.size w w' := by
  have HI : Hid (IAt w (some ⟨g, 0, none⟩) l) := h
  clear h
  go_enter Tryd.func32, Tryd.ntmps32
  go_wp2_with (first
    | (with_reducible refine wpList_boxV (w := w) (by with_unfolding_all rfl) 27 (.tmp 0) (by with_unfolding_all rfl) (hvs (some ⟨g, 0, none⟩) n c s z) (by with_unfolding_all rfl) ?_; intro w0 hA0 hB0 hS0)
    | (with_reducible refine wpList_allocV (w := w0) (by with_unfolding_all rfl) 27 (by with_unfolding_all rfl) (hvs none 0 0 ⟨#[]⟩ 0) Tryd.infoH ?_; intro w1 hA1 hB1 hS1))
  have V1 := hA0.below hB1 (by omega)
  have V2 : RowV w1 (w.heap.size + 1) (hvs none 0 0 ⟨#[]⟩ 0) := by rw [← hS0]; exact hA1
  have B01 : Below w.heap.size w w1 := hB0.trans (hB1.mono (by omega))
  have HI1 : Hid (IAt w1 (some ⟨g, 0, none⟩) l) := HI.out.below B01
  have hz1 : w1.heap.size = w.heap.size + 1 + 1 := by omega
  try simp only [Act.put, List.setIfInBounds_toArray, List.set_cons_zero, List.set_cons_succ]
  rw [hS0]
  clear hA0 hA1 hB0 hB1 HI
  refine wp_region_held_drew (S := fun w' => RowV w' w.heap.size (hvs (some ⟨g, 0, none⟩) n c s z)) (by kernel_rfl) V1.drew (fun S0 => ?_)
  refine wpAnyH_take (i := 0) (oi := ⟨_, _, _, _, _, _⟩) (v := .pointer (some ⟨w.heap.size, 0, none⟩)) rfl (by kernel_rfl) (by kernel_rfl) (by kernel_rfl) (fun _ _ _ h => h) (Or.inl ⟨wanted_none rfl, fun w' hSw => ?_⟩) S0 ?_
  · go_simp
  try simp only [Act.put, List.setIfInBounds_toArray, List.set_cons_zero, List.set_cons_succ]
  refine wpAnyH_take (i := 1) (oi := ⟨_, _, _, _, _, _⟩) (v := .slice (some ⟨g, 0, none⟩) n c) rfl (by kernel_rfl) (by kernel_rfl) (by kernel_rfl) (fun _ _ _ h => h) (Or.inl ⟨wanted_none rfl, fun w' hSw => ?_⟩) S0 ?_
  · have q := hSw.cell (k := 0) rfl; go_simp
  try simp only [Act.put, List.setIfInBounds_toArray, List.set_cons_zero, List.set_cons_succ]
  refine wpAnyH_take (i := 3) (oi := ⟨_, _, _, _, _, _⟩) (v := .pointer (some ⟨w.heap.size, 1, none⟩)) rfl (by kernel_rfl) (by kernel_rfl) (by kernel_rfl) (fun _ _ _ h => h) (Or.inl ⟨wanted_none rfl, fun w' hSw => ?_⟩) S0 ?_
  · go_simp
  try simp only [Act.put, List.setIfInBounds_toArray, List.set_cons_zero, List.set_cons_succ]
  refine wpAnyH_take (i := 4) (oi := ⟨_, _, _, _, _, _⟩) (v := .string s) rfl (by kernel_rfl) (by kernel_rfl) (by kernel_rfl) (fun _ _ _ h => h) (Or.inl ⟨wanted_none rfl, fun w' hSw => ?_⟩) S0 ?_
  · have q := hSw.cell (k := 1) rfl; go_simp
  try simp only [Act.put, List.setIfInBounds_toArray, List.set_cons_zero, List.set_cons_succ]
  refine wpAnyH_take (i := 6) (oi := ⟨_, _, _, _, _, _⟩) (v := .pointer (some ⟨w.heap.size, 2, none⟩)) rfl (by kernel_rfl) (by kernel_rfl) (by kernel_rfl) (fun _ _ _ h => h) (Or.inl ⟨wanted_none rfl, fun w' hSw => ?_⟩) S0 ?_
  · go_simp
  try simp only [Act.put, List.setIfInBounds_toArray, List.set_cons_zero, List.set_cons_succ]
  refine wpAnyH_take (i := 7) (oi := ⟨_, _, _, _, _, _⟩) (v := .int .i64 z) rfl (by kernel_rfl) (by kernel_rfl) (by kernel_rfl) (fun _ _ _ h => h) (Or.inl ⟨wanted_none rfl, fun w' hSw => ?_⟩) S0 ?_
  · have q := hSw.cell (k := 2) rfl; go_simp
  try simp only [Act.put, List.setIfInBounds_toArray, List.set_cons_zero, List.set_cons_succ]
  have B0 : Below w1.heap.size w1 w1.drew := (Below.refl _ _).drew
  generalize w1.drew = W at *
  refine wpAnyH_ready (rs := [2]) (by kernel_rfl) (by simp) (AllReadyH.cons (o := ⟨_, _, _, _, _, _⟩) rfl (fun K hK => ?_) AllReadyH.nil)
  rewrite [if_pos (wanted_none rfl)]
  with_reducible refine wp_append_row (.const (.slice none 0 0)) (.tmp 4) (by with_unfolding_all rfl) W.heap.size (.slice none 0 0) (by with_unfolding_all rfl) own_nil g c n l hn (by with_unfolding_all rfl) (HI1.out.below B0) hb (Nat.le_refl _) ?_
  intro a2 c2 W2 hN2 hB2
  have S2 := S0.below hB2 (S0.lt (hvs_ne _ _ _ _ _))
  refine hK.out _ _ S2 (fun _ => ?_)
  clear hK K
  try simp only [Act.put, List.setIfInBounds_toArray, List.set_cons_zero, List.set_cons_succ]
  refine wpAnyH_ready (rs := [5]) (by kernel_rfl) (by simp) (AllReadyH.cons (o := ⟨_, _, _, _, _, _⟩) rfl (fun K hK => ?_) AllReadyH.nil)
  rewrite [if_pos (wanted_none rfl)]
  go_simp
  refine (ownText_any s W2).mono ?_
  rintro e W3 ⟨rfl, hB3⟩
  have S3 := S2.below hB3 (S2.lt (hvs_ne _ _ _ _ _))
  go_wp2_with fail
  refine hK.out _ _ S3 (fun _ => ?_)
  clear hK K
  refine wpAnyH_take (i := 8) (oi := ⟨_, _, _, _, _, _⟩) (v := .agg (hvs a2 n c2 s z).toArray) rfl (by kernel_rfl) (by kernel_rfl) (by kernel_rfl) (fun _ _ _ h => h) (Or.inl ⟨wanted_none rfl, fun w' hSw => ?_⟩) S3 ?_
  · go_simp; rfl
  try simp only [Act.put, List.setIfInBounds_toArray, List.set_cons_zero, List.set_cons_succ]
  have z2 := hB2.size
  have z3 := hB3.size
  have z0 := B0.size
  have T2 : Below w1.heap.size w1 W2 := B0.trans (hB2.mono z0)
  have T3 : Below w1.heap.size w1 W3 := T2.trans (hB3.mono (by omega))
  have V3 := V2.below T3 (by omega)
  refine wpAnyH_ready (rs := [9]) (by kernel_rfl) (by simp) (AllReadyH.cons (o := ⟨_, _, _, _, _, _⟩) rfl (fun K hK => ?_) AllReadyH.nil)
  rewrite [if_pos (wanted_none rfl)]
  with_reducible refine wp_store_mid 27 (.tmp 2) (.tmp 11) (by with_unfolding_all rfl) (w.heap.size + 1) 0 (hvs a2 n c2 s z).toArray (by with_unfolding_all rfl) (by with_unfolding_all rfl) (by with_unfolding_all exact V3.ths) (by with_unfolding_all exact Tryd.sizeH) (by rw [Array.all_eq_true_iff_forall_mem]; intro v hv; exact hvs_one _ _ _ _ _ v (by simpa using hv)) ?_
  have F9 : RowV (W3.setCells (w.heap.size + 1) 0 (hvs a2 n c2 s z)) (w.heap.size + 1) (hvs a2 n c2 s z) ∧ New w1.heap.size (W3.setCells (w.heap.size + 1) 0 (hvs a2 n c2 s z)) a2 l ∧ Below w.heap.size w (W3.setCells (w.heap.size + 1) 0 (hvs a2 n c2 s z)) := ⟨V3.put rfl, ((hN2.below hB3).mono (by omega)).sets (by omega) _, (B01.trans (T3.mono (by omega))).trans (Lib.below_setCells_w (by omega) _ _ _)⟩
  have S9 : RowV (W3.setCells (w.heap.size + 1) 0 (hvs a2 n c2 s z)) w.heap.size (hvs (some ⟨g, 0, none⟩) n c s z) := ⟨World.rangeAt_setCells_apart S3.rng (w.heap.size + 1) 0 _ (.inl (by omega)), World.there_setCells S3.ths (w.heap.size + 1) 0 _⟩
  dsimp only
  generalize W3.setCells (w.heap.size + 1) 0 (hvs a2 n c2 s z) = w9 at *
  refine hK.out _ _ S9 (fun _ => ?_)
  clear hK K
  refine wpAnyH_done (by kernel_rfl) ?_ _
  go_wp2_with fail
  refine bodyPost_ret (results_V (t := 27) rfl _ (w.heap.size + 1) _ rfl F9.1 Tryd.undH 3 Tryd.sizeH rfl) rfl ⟨a2, c2, rfl, F9.2.1.mono (by omega), F9.2.2⟩
end Go.Proofs.YthmlfohgbkkbjaaDoor
