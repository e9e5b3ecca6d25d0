/- The program's takeBlocks: what stands behind the whole blocks of a text, and what is left of it. -/
import Derived.Test.YtchfpiadfmnphaaDoorBlkI
import Derived.Test.YtchfpiadfmnphaaDoorRowV
namespace Go.Proofs.YtchfpiadfmnphaaDoor
open Go.RowKit
set_option linter.unusedVariables false
attribute [local go_sem ↓] Go.wp_at_zero Go.wp_at_succ

def stN (r : R8) (t : ByteArray) : Nat → R8
  | 0 => r
  | n + 1 => blk (stN r t n) (t.extract (64 * n) (64 * n + 64))
theorem stN_succ (r : R8) (t : ByteArray) (n : Nat) : stN r t (n + 1) = blk (stN r t n) (t.extract (64 * n) (64 * n + 64)) := by rw [stN]
def left (t : ByteArray) (n : Nat) : ByteArray := t.extract (64 * n) t.size
theorem left_zero (t : ByteArray) : left t 0 = t := by
  unfold left
  rw [Nat.mul_zero]
  exact ByteArray.extract_zero_size
theorem left_size (t : ByteArray) (n : Nat) : (left t n).size = t.size - 64 * n := by
  unfold left
  rw [ByteArray.size_extract, Nat.min_self]
theorem left_block (t : ByteArray) (n : Nat) (h : 64 ≤ (left t n).size) : (left t n).extract 0 64 = t.extract (64 * n) (64 * n + 64) := by
  have hs := left_size t n
  unfold left
  rw [ByteArray.extract_extract]
  congr 1
  omega
theorem left_next (t : ByteArray) (n : Nat) (h : 64 ≤ (left t n).size) : (left t n).extract 64 (left t n).size = left t (n + 1) := by
  have hs := left_size t n
  rw [hs]
  unfold left
  rw [ByteArray.extract_extract]
  congr 1
  · omega
theorem results_U2 {P : Program} {fn : Func} {a b : Tmp} {t : TypeId} {w : World} (h : fn.results = #[.cell a t, .tmp b]) (tmps : Array Value) (g : Nat) (l : List UInt32) (v : Value) (hx : tmps.getD a undef = .pointer (some ⟨g, 0, none⟩)) (hv : tmps.getD b undef = v)
    (hl : ArrU w g l) (n : Nat) (e : TypeId) (hu : P.underlying t = some (.array n e)) (hi : (P.info? t).map (·.size) = some n) (hn : l.length = n) : (results fn tmps).run P w = .ok (.tuple #[aggU l, v]) w := by
  have := run_loadVar_mid (P := P) w g 0 t (us l) _ hl.rng hu rfl (by rw [us_length, hn]; exact hi)
  rw [Array.getD_eq_getD_getElem?] at hx hv
  simp [results, h, hx, hv, asAddr, this, aggU]

set_option maxRecDepth 100000 in
set_option maxHeartbeats 1000000 in
theorem blocks_any (r : R8) (t : ByteArray) (w : World) (ht : t.size ≤ 1000000000) (hK : ArrU w 0 keys) (hg0 : 0 < w.heap.size) :
    Calls Tryd.prog 87 #[aggU r.list, .string t] w fun e w' => e = .returned (.tuple #[aggU (stN r t (t.size / 64)).list, .string (left t (t.size / 64))]) ∧ Below w.heap.size w w' := by
  have HK : Hid (ArrU w 0 keys) := hK
  have H0 : Hid (left t 0 = t) := left_zero t
  clear hK
  go_enter Tryd.func87, Tryd.ntmps87
  go_wp2_with (first
    | (with_reducible refine wpList_boxU (w := w) (by with_unfolding_all rfl) 128 (.tmp 0) (by with_unfolding_all rfl) r.list (by with_unfolding_all rfl) ?_; intro w1 hA1 hB1 hS1)
    | (with_reducible refine wpList_allocU (w := w1) (by with_unfolding_all rfl) 128 (by with_unfolding_all rfl) 8 Tryd.infoA8 ?_; intro w2 hA2 hB2 hS2))
  have HW : Hid (ArrU w2 w.heap.size (stN r t 0).list ∧ ArrU w2 (w.heap.size + 1) (List.replicate 8 0) ∧ Below w.heap.size w w2) := ⟨hA1.below hB2 (by omega), by rw [← hS1]; exact hA2, hB1.trans (hB2.mono (by omega))⟩
  clear hA1 hA2 hB1 hB2
  go_loopw [1] (fun v wr => ∃ (n : Nat) (u : ByteArray), v = .string u ∧ left t n = u ∧ 64 * n ≤ t.size ∧ ArrU wr w.heap.size (stN r t n).list ∧ ArrU wr (w.heap.size + 1) (List.replicate 8 0) ∧ Below w.heap.size w wr ∧ w2.heap.size ≤ wr.heap.size)
    (fun v _ => match v with | .string s => s.size | _ => 0)
  case atStart => exact ⟨0, t, rfl, H0.out, by omega, HW.out.1, HW.out.2.1, HW.out.2.2, Nat.le_refl _⟩
  case round =>
    clear HW
    obtain ⟨n, u, rfl, hu, hn, hA, hR, hB, hz⟩ := hrel
    have H8 : Hid (ArrU wr w.heap.size (stN r t n).list ∧ ArrU wr (w.heap.size + 1) (List.replicate 8 0) ∧ Below w.heap.size w wr) := ⟨hA, hR, hB⟩
    have hls := left_size t n
    have HB1 : Hid (64 ≤ (left t n).size → (left t n).extract 0 64 = t.extract (64 * n) (64 * n + 64)) := left_block t n
    have HB2 : Hid (64 ≤ (left t n).size → (left t n).extract 64 (left t n).size = left t (n + 1)) := left_next t n
    have HST : Hid (True → stN r t (n + 1) = blk (stN r t n) (t.extract (64 * n) (64 * n + 64))) := fun _ => stN_succ r t n
    rw [hu] at hls HB1 HB2
    have HU : Hid (True → left t n = u) := fun _ => hu
    clear hu
    by_cases hlt : 64 ≤ u.size
    · as_aux_lemma =>
      have hb1 := HB1.out hlt
      have hb2 := HB2.out hlt
      obtain ⟨v, hv⟩ : ∃ v, t.extract (64 * n) (64 * n + 64) = v := ⟨_, rfl⟩
      have hvs : v.size = 64 := by rw [← hv, ← hb1, ByteArray.size_extract]; omega
      obtain ⟨q, hq⟩ : ∃ q, stN r t n = q := ⟨_, rfl⟩
      obtain ⟨q2, hq2⟩ : ∃ q2, blk q v = q2 := ⟨_, rfl⟩
      have HQ : Hid (True → stN r t (n + 1) = q2) := fun _ => by rw [HST.out trivial, hq, hv, hq2]
      obtain ⟨u2, hu2⟩ : ∃ u2, left t (n + 1) = u2 := ⟨_, rfl⟩
      have HU2 : Hid (True → left t (n + 1) = u2) := fun _ => hu2
      have HS2 : Hid (True → u2.size < u.size ∧ 64 * (n + 1) ≤ t.size) := fun _ => ⟨by have := left_size t (n + 1); rw [hu2] at this; omega, by omega⟩
      rw [hv] at hb1
      rw [hu2] at hb2
      have hbk : ∀ w0 : World, ArrU w0 0 keys → 0 < w0.heap.size → Calls Tryd.prog 107 #[aggU q.list, .string v] w0 fun e w' => e = .returned (aggU q2.list) ∧ Below w0.heap.size w0 w' := fun w0 h1 h2 => by rw [← hq2]; exact blockI_any q v w0 hvs h1 h2
      rw [hq] at hA
      have hAq : ArrU wr w.heap.size q.list := hA
      have l64 : (64 : Int) ≤ (u.size : Int) := by omega
      clear HB1 HB2 HST HU hA hv hq hq2 hu2 hls H0
      go_wp2_with fail
      have hKr : ArrU wr 0 keys := HK.out.below H8.out.2.2 hg0
      refine wp_region_held_drew (S := fun _ => True) (by kernel_rfl) trivial (fun hHeld => ?_)
      refine wpAnyH_take (i := 1) (oi := ⟨_, _, _, _, _, _⟩) (v := .string u) rfl (by kernel_rfl) (by kernel_rfl) (by kernel_rfl) (fun _ _ _ h => h) (Or.inl ⟨wanted_none rfl, fun w' hSw => ?_⟩) trivial ?_
      · go_simp
      simp only [Act.put, List.setIfInBounds_toArray, List.set_cons_zero, List.set_cons_succ]
      refine wpAnyH_take (i := 2) (oi := ⟨_, _, _, _, _, _⟩) (v := .string v) rfl (by kernel_rfl) (by kernel_rfl) (by kernel_rfl) (fun _ _ _ h => h) (Or.inl ⟨wanted_none rfl, fun w' hSw => ?_⟩) trivial ?_
      · go_simp
      simp only [Act.put, List.setIfInBounds_toArray, List.set_cons_zero, List.set_cons_succ]
      refine wpAnyH_ready (rs := [0]) (by kernel_rfl) (by simp) (AllReadyH.cons (o := ⟨_, _, _, _, _, _⟩) rfl (fun K hK => ?_) AllReadyH.nil)
      rewrite [if_pos (wanted_none rfl)]
      with_reducible refine wp_load_mid 128 (.tmp 2) (by with_unfolding_all rfl) w.heap.size 0 (by with_unfolding_all rfl) (us q.list) (.array 8 127) hAq.drew.rng Tryd.undA8 (by with_unfolding_all rfl) (by with_unfolding_all exact Tryd.sizeA8) ?_
      refine hK.out _ _ trivial (fun hHeld => ?_)
      clear hK K
      simp only [Act.put, List.setIfInBounds_toArray, List.set_cons_zero, List.set_cons_succ]
      refine wpAnyH_ready (rs := [3]) (by kernel_rfl) (by simp) (AllReadyH.cons (o := ⟨_, _, _, _, _, _⟩) rfl (fun K hK => ?_) AllReadyH.nil)
      rewrite [if_pos (wanted_none rfl)]
      go_simp
      refine (hbk wr.drew hKr.drew (Nat.lt_of_lt_of_le hg0 H8.out.2.2.size)).mono ?_
      rintro e w3 ⟨rfl, hB3⟩
      go_wp2_with fail
      refine hK.out _ _ trivial (fun _ => ?_)
      clear hK K
      have HT3 : ArrU w3 w.heap.size q.list := hAq.drew.below hB3 (hAq.lt (by show 0 < 8; omega))
      have HR3 : ArrU w3 (w.heap.size + 1) (List.replicate 8 0) := H8.out.2.1.drew.below hB3 (H8.out.2.1.lt (by decide))
      have hB4 : Below w.heap.size w w3 := (H8.out.2.2.drew).trans (hB3.mono H8.out.2.2.size)
      have hz3 : wr.heap.size ≤ w3.heap.size := hB3.size
      refine wpAnyH_ready (rs := [4]) (by kernel_rfl) (by simp) (AllReadyH.cons (o := ⟨_, _, _, _, _, _⟩) rfl (fun K hK => ?_) AllReadyH.nil)
      rewrite [if_pos (wanted_none rfl)]
      with_reducible refine wp_store_mid 128 (.tmp 2) (.tmp 12) (by with_unfolding_all rfl) w.heap.size 0 (us q2.list).toArray (by with_unfolding_all rfl) (by with_unfolding_all rfl) (by with_unfolding_all exact HT3.ths) (by with_unfolding_all exact Tryd.sizeA8) (us_one _) ?_
      have H9 : Hid (ArrU (w3.setCells w.heap.size 0 (us q2.list)) w.heap.size q2.list ∧ ArrU (w3.setCells w.heap.size 0 (us q2.list)) (w.heap.size + 1) (List.replicate 8 0) ∧ Below w.heap.size w (w3.setCells w.heap.size 0 (us q2.list)) ∧ w2.heap.size ≤ (w3.setCells w.heap.size 0 (us q2.list)).heap.size) :=
        ⟨HT3.put rfl, ⟨World.rangeAt_setCells_apart HR3.rng w.heap.size 0 _ (.inl (by omega)), World.there_setCells HR3.ths w.heap.size 0 _⟩, hB4.trans (Lib.below_setCells_w (Nat.le_refl _) _ _ _), by rw [setCells_size]; omega⟩
      dsimp only
      generalize w3.setCells w.heap.size 0 (us q2.list) = w4 at *
      refine hK.out _ _ trivial (fun _ => ?_)
      clear hK K
      refine wpAnyH_done (by kernel_rfl) ?_ _
      clear HT3 HR3 hB4 hB3 hz3 hKr hAq hbk H8 hR hB hz hHeld
      go_wp2
      go_roundw
      case rel => exact ⟨n + 1, u2, rfl, HU2.out trivial, (HS2.out trivial).2, by rw [HQ.out trivial]; exact H9.out.1, H9.out.2.1, H9.out.2.2.1, H9.out.2.2.2⟩
      case measure => exact (HS2.out trivial).1
    · as_aux_lemma =>
      have hfin : n = t.size / 64 := by omega
      have HF : Hid (True → stN r t (t.size / 64) = stN r t n ∧ left t (t.size / 64) = u) := fun _ => by rw [← hfin]; exact ⟨rfl, HU.out trivial⟩
      obtain ⟨q, hq⟩ : ∃ q, stN r t n = q := ⟨_, rfl⟩
      have HQ : Hid (True → stN r t n = q) := fun _ => hq
      rw [hq] at hA
      clear HB1 HB2 HST HU H8 hq hls hfin H0
      go_wp2_with (first
        | (with_reducible refine wpList_loadU (w := wr) (by with_unfolding_all rfl) 128 (.tmp 2) (by with_unfolding_all rfl) w.heap.size q.list (by with_unfolding_all rfl) hA 8 127 Tryd.undA8 Tryd.sizeA8 (by with_unfolding_all rfl) ?_)
        | (with_reducible refine wpList_storeU (w := wr) (by with_unfolding_all rfl) 128 (.tmp 4) (.tmp 15) (by with_unfolding_all rfl) (w.heap.size + 1) (List.replicate 8 0) q.list (by with_unfolding_all rfl) (by with_unfolding_all rfl) hR (by rw [List.length_replicate]; exact Tryd.sizeA8) (by with_unfolding_all rfl) ?_; intro w5 hA5 hB5 _))
      refine bodyPost_ret (results_U2 (t := 128) rfl _ (w.heap.size + 1) q.list (.string u) rfl rfl hA5 8 127 Tryd.undA8 Tryd.sizeA8 rfl) rfl ⟨by rw [(HF.out trivial).1, (HF.out trivial).2, HQ.out trivial], ?_⟩
      exact hB.trans (hB5 _ (by omega))
end Go.Proofs.YtchfpiadfmnphaaDoor
