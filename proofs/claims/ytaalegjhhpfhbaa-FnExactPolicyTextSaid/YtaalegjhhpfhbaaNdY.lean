/- PolicyText of the specification. -/
import Derived.Test.YtaalegjhhpfhbaaNdX
import Derived.Test.YtaalegjhhpfhbaaNdU
import Derived.Test.YtaalegjhhpfhbaaNdS
import Derived.Test.YtaalegjhhpfhbaaNdK
import Derived.Test.YtaalegjhhpfhbaaPtO
namespace Go.Proofs.Ytaalegjhhpfhbaa
open Go.RowKit
set_option linter.unusedVariables false

def partN (y : Nd) : PtV := ⟨textN y, opN y⟩
theorem partN_is {k v Y : ByteArray} (h : textN (.is k v) = Y) : partN (.is k v) = ⟨Y, 1⟩ := by unfold partN; rw [h]; rfl
theorem partN_has {k Y : ByteArray} (h : textN (.has k) = Y) : partN (.has k) = ⟨Y, 2⟩ := by unfold partN; rw [h]; rfl
theorem partN_neg {q : Nd} {Y : ByteArray} (h : textN (.neg q) = Y) : partN (.neg q) = ⟨Y, 3⟩ := by unfold partN; rw [h]; rfl
theorem partN_par {op : Int} {q1 q2 : Nd} {Y : ByteArray} (h : textN (.par op q1 q2) = Y) : partN (.par op q1 q2) = ⟨Y, op⟩ := by unfold partN; rw [h]; rfl
theorem nd_size {q : Nd} (h : NdW q ∧ cntN q ≤ 60) : (textN q).size ≤ 6000 := by have := textN_size q h.1; have := h.2; omega
theorem nd_op {q : Nd} (h : NdW q) : 1 ≤ opN q ∧ opN q ≤ 5 := by
  cases q with
  | is k v => exact ⟨by show (1 : Int) ≤ 1; omega, by show (1 : Int) ≤ 5; omega⟩
  | has k => exact ⟨by show (1 : Int) ≤ 2; omega, by show (2 : Int) ≤ 5; omega⟩
  | neg q => exact ⟨by show (1 : Int) ≤ 3; omega, by show (3 : Int) ≤ 5; omega⟩
  | par op a b =>
    have h4 := h.1
    exact ⟨by show (1 : Int) ≤ op; omega, by show op ≤ 5; omega⟩
theorem pnot_cells {w : World} {base g n c p : Nat} {q1 : Nd} {r : List Nd} (h : PtO w base (.slice (some ⟨g, 0, none⟩) n c) (((q1 :: r).map partN).reverse)) (hp : (r.map partN).reverse.length = p) :
    PtO w base (.slice (some ⟨g, 0, none⟩) n c) ((r.map partN).reverse ++ [⟨textN q1, opN q1⟩]) ∧ w.cell? ⟨g, p * 2, none⟩ = some (.string (textN q1)) ∧ w.cell? ⟨g, p * 2 + 1, none⟩ = some (.int .i64 (opN q1)) := by
  rw [List.map_cons, List.reverse_cons] at h
  subst hp
  refine ⟨h, ?_⟩
  have hc := PtO.cell h (r.map partN).reverse.length (by simp)
  rw [List.getElem_append_right (Nat.le_refl _)] at hc
  simpa [partN] using hc
theorem ppar_cells {w : World} {base g n c p p2 : Nat} {q1 q2 : Nd} {r : List Nd} (h : PtO w base (.slice (some ⟨g, 0, none⟩) n c) (((q2 :: q1 :: r).map partN).reverse)) (hp : (r.map partN).reverse.length = p) (hp2 : p2 = p + 1) :
    PtO w base (.slice (some ⟨g, 0, none⟩) n c) ((r.map partN).reverse ++ [⟨textN q1, opN q1⟩, ⟨textN q2, opN q2⟩]) ∧ w.cell? ⟨g, p * 2, none⟩ = some (.string (textN q1)) ∧ w.cell? ⟨g, p * 2 + 1, none⟩ = some (.int .i64 (opN q1)) ∧ w.cell? ⟨g, p2 * 2, none⟩ = some (.string (textN q2)) ∧ w.cell? ⟨g, p2 * 2 + 1, none⟩ = some (.int .i64 (opN q2)) := by
  have e : ((q2 :: q1 :: r).map partN).reverse = (r.map partN).reverse ++ [⟨textN q1, opN q1⟩, ⟨textN q2, opN q2⟩] := by rw [List.map_cons, List.map_cons, List.reverse_cons, List.reverse_cons, List.append_assoc]; rfl
  rw [e] at h
  subst hp hp2
  have h1 := PtO.cell h (r.map partN).reverse.length (by simp)
  have h2 := PtO.cell h ((r.map partN).reverse.length + 1) (by simp)
  rw [List.getElem_append_right (Nat.le_refl _)] at h1
  rw [List.getElem_append_right (by omega)] at h2
  refine ⟨h, ?_, ?_, ?_, ?_⟩
  · simpa using h1.1
  · simpa using h1.2
  · simpa using h2.1
  · simpa using h2.2
theorem pset_last {l : List PtV} {p : Nat} {x y : PtV} (h : l.length = p) : l ++ [y] = (l ++ [x]).set p y := by
  subst h
  rw [List.set_append_right _ _ (Nat.le_refl _)]
  simp
theorem pset_pen {l : List PtV} {p : Nat} {x y z : PtV} (h : l.length = p) : l ++ [y, z] = (l ++ [x, z]).set p y := by
  subst h
  rw [List.set_append_right _ _ (Nat.le_refl _)]
  simp
theorem ppar_next {w : World} {base g n c p p2 : Nat} {q1 q2 : Nd} {r : List Nd} {x z : PtV} {op : Int} (hb : partN (.par op q1 q2) = x) (hp2 : p2 = p + 1) (hp : (r.map partN).reverse.length = p) (h : PtO w base (.slice (some ⟨g, 0, none⟩) n c) ((r.map partN).reverse ++ [x, z])) :
    PtO w base (.slice (some ⟨g, 0, none⟩) p2 c) (((Nd.par op q1 q2 :: r).map partN).reverse) := by
  have e : (((Nd.par op q1 q2 :: r).map partN).reverse) = (r.map partN).reverse ++ [x] := by rw [List.map_cons, List.reverse_cons, hb]
  rw [e]
  refine PtO.cut (r := [z]) p2 (by rw [List.append_assoc]; exact h) (by rw [List.length_append, hp, hp2]; rfl)
set_option maxRecDepth 100000 in
set_option maxHeartbeats 64000000 in
theorem specPolT (a : Option Addr) (c n : Nat) (l : List InsV) (w : World) (hn : l.length = n) (h : InsAt w a l) (hm : n ≤ maxLen) (hw : ∀ x ∈ l, x.w) :
    Calls Try.prog 21 #[.slice a n c] w fun r w' => r = .returned (.string (polT (nodeN l))) ∧ Below w.heap.size w w' := by
  have hm0 := hm
  unfold maxLen at hm0
  have HN := hidP hn
  have HW := hidP hw
  have hC1 : ∀ w0, (InsAt w0 a l) → (nodeN l = none) → Calls Try.prog 12 #[.slice a n c] w0 fun r w' => r = .returned (.bool false) ∧ Below w0.heap.size w0 w' := fun w0 n0 n1 => by have hh := specPolR a c n l w0 hn n0 hm hw; rw [n1] at hh; exact hh
  have hC2 : ∀ w0 (y : Nd), (InsAt w0 a l) → (nodeN l = some y) → Calls Try.prog 12 #[.slice a n c] w0 fun r w' => r = .returned (.bool true) ∧ Below w0.heap.size w0 w' := fun w0 y n0 n1 => by have hh := specPolR a c n l w0 hn n0 hm hw; rw [n1] at hh; exact hh
  have hC3 : ∀ w0 (q1 : Nd) (r : List Nd) (P1 : ByteArray), (brkT (decide (3 < opN q1)) (textN q1) = P1) → (NdW q1 ∧ cntN q1 ≤ 60) → Calls Try.prog 56 #[.agg #[.string (textN q1), .int .i64 (opN q1)], .int .i64 3, .bool false] w0 fun r w' => r = .returned (.string P1) ∧ Below w0.heap.size w0 w' := fun w0 q1 r P1 n0 n1 => by rw [← n0]; exact specIn3f (textN q1) (opN q1) w0 (nd_size n1) (nd_op n1.1).1 (nd_op n1.1).2
  have hC4 : ∀ w0 (q1 : Nd) (r : List Nd) (P1 : ByteArray), (brkT (decide (4 < opN q1)) (textN q1) = P1) → (NdW q1 ∧ cntN q1 ≤ 60) → Calls Try.prog 56 #[.agg #[.string (textN q1), .int .i64 (opN q1)], .int .i64 4, .bool false] w0 fun r w' => r = .returned (.string P1) ∧ Below w0.heap.size w0 w' := fun w0 q1 r P1 n0 n1 => by rw [← n0]; exact specIn4f (textN q1) (opN q1) w0 (nd_size n1) (nd_op n1.1).1 (nd_op n1.1).2
  have hC5 : ∀ w0 (r : List Nd) (q2 : Nd) (P2 : ByteArray), (brkT (decide (3 < opN q2)) (textN q2) = P2) → (NdW q2 ∧ cntN q2 ≤ 60) → Calls Try.prog 56 #[.agg #[.string (textN q2), .int .i64 (opN q2)], .int .i64 4, .bool true] w0 fun r w' => r = .returned (.string P2) ∧ Below w0.heap.size w0 w' := fun w0 r q2 P2 n0 n1 => by rw [← n0]; exact specIn4t (textN q2) (opN q2) w0 (nd_size n1) (nd_op n1.1).1 (nd_op n1.1).2
  have hC6 : ∀ w0 (q1 : Nd) (r : List Nd) (P1 : ByteArray), (brkT (decide (5 < opN q1)) (textN q1) = P1) → (NdW q1 ∧ cntN q1 ≤ 60) → Calls Try.prog 56 #[.agg #[.string (textN q1), .int .i64 (opN q1)], .int .i64 5, .bool false] w0 fun r w' => r = .returned (.string P1) ∧ Below w0.heap.size w0 w' := fun w0 q1 r P1 n0 n1 => by rw [← n0]; exact specIn5f (textN q1) (opN q1) w0 (nd_size n1) (nd_op n1.1).1 (nd_op n1.1).2
  have hC7 : ∀ w0 (r : List Nd) (q2 : Nd) (P2 : ByteArray), (brkT (decide (4 < opN q2)) (textN q2) = P2) → (NdW q2 ∧ cntN q2 ≤ 60) → Calls Try.prog 56 #[.agg #[.string (textN q2), .int .i64 (opN q2)], .int .i64 5, .bool true] w0 fun r w' => r = .returned (.string P2) ∧ Below w0.heap.size w0 w' := fun w0 r q2 P2 n0 n1 => by rw [← n0]; exact specIn5t (textN q2) (opN q2) w0 (nd_size n1) (nd_op n1.1).1 (nd_op n1.1).2
  have HS0 : Hid (Sta [] w [] [⟨fun k => k < w.heap.size, fun w' => InsAt w' a l⟩] w) := Sta.arg (fun w' => InsAt w' a l) (fun w' hb => h.below hb)
  clear h
  go_enter Try.func21, Try.ntmps21
  have hc4 : (400 < n) ∨ (¬ 400 < n ∧ nodeN l = none) ∨ (¬ 400 < n ∧ ∃ y, nodeN l = some y) := by
    rcases hx : nodeN l with _ | y <;> simp <;> omega
  rcases hc4 with g | ⟨g, hf⟩ | ⟨g, y, hf⟩
  · as_aux_lemma =>
    have HE : Hid (polT (nodeN l) = ⟨#[]⟩) := by show _ = _; rw [node_long HN.out (by omega)]; rfl
    have d_n : decide ((400 : Int) < (n : Int)) = true := decide_eq_true (by omega)
    go_wp2_with fail
    go_ret
    exact ⟨by rw [HE.out]; rfl, Sta.fin HS0⟩
  · as_aux_lemma =>
    have HF := hidP hf
    have HE : Hid (polT (nodeN l) = ⟨#[]⟩) := by show _ = _; rw [hf]; rfl
    clear hf
    have d_n : decide ((400 : Int) < (n : Int)) = false := decide_eq_false (by omega)
    go_wp2_with (first
      | (go_at_call 12; have n1_0 : InsAt w a l := (Sta.t (i := 0) HS0 rfl :); (with_reducible refine (hC1 w n1_0 HF.out).mono ?_); rintro r w1 ⟨rfl, hB1⟩; have HS1 := Sta.call HS0 hB1; clear hB1))
    go_ret
    exact ⟨by rw [HE.out]; rfl, Sta.fin HS1⟩
  · as_aux_lemma =>
    have HF := hidP hf
    have HE : Hid (polT (nodeN l) = textN y) := by show _ = _; rw [hf]; rfl
    clear hf
    have d_n : decide ((400 : Int) < (n : Int)) = false := decide_eq_false (by omega)
    go_wp2_with (first
      | (go_at_call 12; have n2_0 : InsAt w a l := (Sta.t (i := 0) HS0 rfl :); (with_reducible refine (hC2 w y n2_0 HF.out).mono ?_); rintro r w2 ⟨rfl, hB2⟩; have HS2 := Sta.call HS0 hB2; clear hB2))
    · skip
      have HS4 : Hid (Sta [] w [] [⟨fun k => (Value.slice none 0 0).ownBlock = some k, fun w' => PtO w' w.heap.size (.slice none 0 0) ([])⟩, ⟨fun k => k < w.heap.size, fun w' => InsAt w' a l⟩] w2) := Sta.own0 w.heap.size 94 2 HS2
      go_wp2_with fail
      have hO5 := World.ownsRow_made (base := w.heap.size) (size := 2) (e := 94) w2 #[] 0 (Sta.size HS4) (by decide) (by simp)
      have hG5 := World.grownBy_alloc w2 (.cells #[] 94) (Value.slice none 0 0).ownBlock
      generalize w2.alloc (.cells #[] 94) = w5 at *
      have HS5 := Sta.app 0 HS4 rfl (Nat.le_refl _) hO5 hG5 (Or.inr rfl)
      clear hO5 hG5
      go_loopw [4, 3] (fun v0 v1 wr => ∃ (k : Nat) (aa : Option Addr) (mm : Nat) (ca : Nat) (st : List Nd), v0 = .int .i64 (k : Int) ∧ v1 = .slice aa mm ca ∧ k ≤ n ∧ Hid (runN (l.take k) = some st) ∧ Hid (st.length = mm) ∧ Hid (Sta [] w [] [⟨fun k => (Value.slice aa mm ca).ownBlock = some k, fun w' => PtO w' w.heap.size (.slice aa mm ca) ((st.map partN).reverse)⟩, ⟨fun k => k < w.heap.size, fun w' => InsAt w' a l⟩] wr)) (fun v0 v1 _ => n - (intOf v0).toNat)
      case atStart => exact ⟨0, (some ⟨w2.heap.size, 0, none⟩), 0, 0, [], rfl, rfl, Nat.zero_le _, rfl, rfl, HS5⟩
      case round =>
        rename Go.World => wl6
        clear HS5
        obtain ⟨k, aa, mm, ca, st, rfl, rfl, hk6, HR, HL, HS6⟩ := hrel
        by_cases hlt6 : k < n
        case neg =>
          obtain rfl : n = k := by omega
          obtain rfl : st = [y] := by have h1 := HR.out; rw [List.take_of_length_le (Nat.le_of_eq HN.out), (node_some HF.out).2.2] at h1; injection h1 with h1; exact h1.symm
          obtain rfl : mm = 1 := HL.out.symm
          obtain ⟨g, rfl⟩ : ∃ g, aa = some ⟨g, 0, none⟩ := by
            rcases PtO.forms (Sta.t (i := 0) HS6 rfl : PtO _ _ (.slice aa 1 ca) _) with ⟨_, h0⟩ | ⟨g, c', n', _, h1, h2⟩
            · exact absurd h0 (by simp)
            · injection h1 with e1 e2 e3; subst e1; exact ⟨g, rfl⟩
          · skip
            have HS7 := Sta.imp 0 (fun w' => PtO w' w.heap.size (.slice (some ⟨g, 0, none⟩) 1 ca) [partN y] ∧ w'.cell? ⟨g, 0, none⟩ = some (.string (textN y))) HS6 rfl (fun w' h => ⟨h, (PtO.cell h 0 (by simp)).1⟩)
            have tcHS7_0_0 : wl6.cell? ⟨g, 0, none⟩ = some (.string (textN y)) := (Sta.t (i := 0) HS7 rfl :).2
            go_wp2_with fail
            go_ret
            exact ⟨by rw [HE.out]; rfl, Sta.fin HS7⟩
        have lk6 : (k : Int) < n := by omega
        have l06 : (0 : Int) ≤ k := by omega
        have hkl : k < l.length := by have := HN.out; omega
        obtain ⟨b, o, rfl, hz8⟩ := (Sta.t (i := 1) HS6 rfl :) k hkl
        clear hz8
        obtain ⟨x0, hx0⟩ : ∃ y, l[k].op = y := ⟨_, rfl⟩
        obtain ⟨x1, hx1⟩ : ∃ y, l[k].key = y := ⟨_, rfl⟩
        obtain ⟨x2, hx2⟩ : ∃ y, l[k].val = y := ⟨_, rfl⟩
        have HS9 := Sta.imp 1 (fun w' => (InsAt w' (some ⟨b, o, none⟩) l) ∧ w'.cell? ⟨b, o + k * 3, none⟩ = some (.int .i64 x0) ∧ w'.cell? ⟨b, o + k * 3 + 1, none⟩ = some (.string x1) ∧ w'.cell? ⟨b, o + k * 3 + 2, none⟩ = some (.string x2)) HS6 rfl (fun w' h => ⟨h, by rw [← hx0]; exact (InsAt.here h k hkl).1, by rw [← hx1]; exact (InsAt.here h k hkl).2.1, by rw [← hx2]; exact (InsAt.here h k hkl).2.2⟩)
        have HM6 : Hid (mm ≤ 60) := by have h1 := (run_w (Nat.le_of_lt hkl) HR.out).2; have h2 := len_sum st; have h3 := HL.out; have h4 := (node_some HF.out).2.1; show _ ≤ _; omega
        have hsr := step_right (step_some HF.out hkl hx0 hx1 hx2 HR.out)
        rcases hsr with ⟨h, hs⟩ | ⟨h, hs⟩ | ⟨h, q1, r, hst, hs⟩ | ⟨h, q1, q2, r, hst, hs⟩ | ⟨h, q1, q2, r, hst, hs⟩
        · as_aux_lemma =>
          have HR2 := hidP ((runN_snoc hkl hx0 hx1 hx2 HR.out).trans hs)
          have HWs := hidP (run_w hkl HR2.out)
          subst h
          have hn1 : x1.size ≤ 40 ∧ x2.size ≤ 40 := by have := HWs.out.1 (.is x1 x2) (List.mem_cons_self ..); exact ⟨nameB_size this.1, nameB_size this.2⟩
          obtain ⟨Y1, hY1⟩ : ∃ y, x1 ++ (⟨#[32, 61, 32]⟩ : ByteArray) = y := ⟨_, rfl⟩
          obtain ⟨Y2, hY2⟩ : ∃ y, Y1 ++ x2 = y := ⟨_, rfl⟩
          have z1 : Y1.size = x1.size + 3 := by rw [← hY1, ByteArray.size_append]; rfl
          have y1 : ¬ 9223372036854775807 < x1.size + 3 := by omega
          have y2 : ¬ 9223372036854775807 < Y1.size + x2.size := by omega
          have HY : Hid (textN (.is x1 x2) = Y2) := by show _ = _; rw [← hY2, ← hY1]; rfl
          clear z1 hn1
          have tcHS9_1_0 : wl6.cell? ⟨b, o + k * 3, none⟩ = some (.int .i64 1) := (Sta.t (i := 1) HS9 rfl :).2.1
          have tcHS9_1_1 : wl6.cell? ⟨b, o + k * 3 + 1, none⟩ = some (.string x1) := (Sta.t (i := 1) HS9 rfl :).2.2.1
          have tcHS9_1_2 : wl6.cell? ⟨b, o + k * 3 + 2, none⟩ = some (.string x2) := (Sta.t (i := 1) HS9 rfl :).2.2.2
          go_wp2_with (first
            | ((with_reducible refine wpList_allocV (w := wl6) (by with_unfolding_all rfl) 41 (by with_unfolding_all rfl) [.int .i64 0, .string ⟨#[]⟩, .string ⟨#[]⟩] Try.zT_implIns ?_); intro w10 hA10 hB10 hS10; clear hS10; have HS10 := Sta.new HS9 hA10 hB10 (by simp); clear hA10 hB10; clear tcHS9_1_0 tcHS9_1_1 tcHS9_1_2)
            | ((with_reducible refine wpList_storeS (w := w10) (by with_unfolding_all rfl) 41 (.tmp 5) (.tmp 26) (by with_unfolding_all rfl) wl6.heap.size [.int .i64 0, .string ⟨#[]⟩, .string ⟨#[]⟩] [.int .i64 1, .string x1, .string x2] (by with_unfolding_all rfl) (by with_unfolding_all rfl) (Sta.r (i := 0) HS10 (by with_unfolding_all rfl)) 3 Try.sT_implIns (by with_unfolding_all rfl) (by with_unfolding_all rfl) (by with_unfolding_all rfl) ?_); intro w11 hA11 hO11; have HS11 := Sta.put 0 HS10 rfl hA11 (by simp) hO11; clear hA11 hO11; have cHS11_0_0 : w11.cell? ⟨wl6.heap.size, 0, none⟩ = some (.int .i64 1) := Sta.c (i := 0) HS11 rfl rfl; have cHS11_0_1 : w11.cell? ⟨wl6.heap.size, 1, none⟩ = some (.string x1) := Sta.c (i := 0) HS11 rfl rfl; have cHS11_0_2 : w11.cell? ⟨wl6.heap.size, 2, none⟩ = some (.string x2) := Sta.c (i := 0) HS11 rfl rfl)
            | ((with_reducible refine wpList_buildPt (w := w11) (by with_unfolding_all rfl) (.tmp 75) (by with_unfolding_all rfl) Y2 1 (by with_unfolding_all rfl) ?_); intro w12 hA12 hB12; have HS12 := Sta.new HS11 hA12 hB12 (by simp [ptv]); clear hA12 hB12; clear cHS11_0_0 cHS11_0_1 cHS11_0_2)
            | ((with_reducible refine wpList_appendPt (W := w12) (by with_unfolding_all rfl) (.tmp 66) (.tmp 76) (by with_unfolding_all rfl) w.heap.size (.slice aa mm ca) ((st.map partN).reverse) ⟨Y2, 1⟩ (by with_unfolding_all rfl) (Sta.t (i := 0) HS12 rfl) w11.heap.size (by with_unfolding_all rfl) (Sta.r (i := 0) HS12 (by with_unfolding_all rfl)) (by have := HL.out; have := HM6.out; simp; omega) (Sta.size HS12) ?_); intro v13 w13 hO13 hG13 hb13; obtain ⟨a13, m13, c13, hm13, rfl⟩ := PtO.form hO13; have HS13 := Sta.app 0 HS12 rfl (Nat.le_refl _) hO13 hG13 hb13; have Hm13 := hidP hm13; clear hO13 hG13 hb13 hm13))
          have HS14 := Sta.imp 1 (fun w' => InsAt w' (some ⟨b, o, none⟩) l) HS13 rfl (fun w' h => h.1)
          have HS15 := Sta.imp 0 (fun w' => PtO w' w.heap.size (.slice a13 m13 c13) (((Nd.is x1 x2 :: st).map partN).reverse)) HS14 rfl (fun w' h => by have e : (((Nd.is x1 x2 :: st).map partN).reverse) = ((st.map partN).reverse) ++ [⟨Y2, 1⟩] := (by rw [List.map_cons, List.reverse_cons, partN_is HY.out]); rw [e]; exact h)
          go_roundw
          case rel => exact ⟨k + 1, a13, m13, c13, (Nd.is x1 x2 :: st), by go_num, by go_num, hlt6, HR2, (by have := Hm13.out; show _ = _; simp at this ⊢; omega), Sta.drop 2 0 HS15⟩
          case measure => simp [intOf]; omega
        · as_aux_lemma =>
          have HR2 := hidP ((runN_snoc hkl hx0 hx1 hx2 HR.out).trans hs)
          have HWs := hidP (run_w hkl HR2.out)
          subst h
          have hn1 : x1.size ≤ 40 := nameB_size (HWs.out.1 (.has x1) (List.mem_cons_self ..))
          obtain ⟨Y1, hY1⟩ : ∃ y, (⟨#[104, 97, 115, 32]⟩ : ByteArray) ++ x1 = y := ⟨_, rfl⟩
          have y1 : ¬ 9223372036854775807 < 4 + x1.size := by omega
          have HY : Hid (textN (.has x1) = Y1) := by show _ = _; rw [← hY1]; rfl
          clear hn1
          have tcHS9_1_0 : wl6.cell? ⟨b, o + k * 3, none⟩ = some (.int .i64 2) := (Sta.t (i := 1) HS9 rfl :).2.1
          have tcHS9_1_1 : wl6.cell? ⟨b, o + k * 3 + 1, none⟩ = some (.string x1) := (Sta.t (i := 1) HS9 rfl :).2.2.1
          have tcHS9_1_2 : wl6.cell? ⟨b, o + k * 3 + 2, none⟩ = some (.string x2) := (Sta.t (i := 1) HS9 rfl :).2.2.2
          go_wp2_with (first
            | ((with_reducible refine wpList_allocV (w := wl6) (by with_unfolding_all rfl) 41 (by with_unfolding_all rfl) [.int .i64 0, .string ⟨#[]⟩, .string ⟨#[]⟩] Try.zT_implIns ?_); intro w16 hA16 hB16 hS16; clear hS16; have HS16 := Sta.new HS9 hA16 hB16 (by simp); clear hA16 hB16; clear tcHS9_1_0 tcHS9_1_1 tcHS9_1_2)
            | ((with_reducible refine wpList_storeS (w := w16) (by with_unfolding_all rfl) 41 (.tmp 5) (.tmp 26) (by with_unfolding_all rfl) wl6.heap.size [.int .i64 0, .string ⟨#[]⟩, .string ⟨#[]⟩] [.int .i64 2, .string x1, .string x2] (by with_unfolding_all rfl) (by with_unfolding_all rfl) (Sta.r (i := 0) HS16 (by with_unfolding_all rfl)) 3 Try.sT_implIns (by with_unfolding_all rfl) (by with_unfolding_all rfl) (by with_unfolding_all rfl) ?_); intro w17 hA17 hO17; have HS17 := Sta.put 0 HS16 rfl hA17 (by simp) hO17; clear hA17 hO17; have cHS17_0_0 : w17.cell? ⟨wl6.heap.size, 0, none⟩ = some (.int .i64 2) := Sta.c (i := 0) HS17 rfl rfl; have cHS17_0_1 : w17.cell? ⟨wl6.heap.size, 1, none⟩ = some (.string x1) := Sta.c (i := 0) HS17 rfl rfl)
            | ((with_reducible refine wpList_buildPt (w := w17) (by with_unfolding_all rfl) (.tmp 86) (by with_unfolding_all rfl) Y1 2 (by with_unfolding_all rfl) ?_); intro w18 hA18 hB18; have HS18 := Sta.new HS17 hA18 hB18 (by simp [ptv]); clear hA18 hB18; clear cHS17_0_0 cHS17_0_1)
            | ((with_reducible refine wpList_appendPt (W := w18) (by with_unfolding_all rfl) (.tmp 80) (.tmp 87) (by with_unfolding_all rfl) w.heap.size (.slice aa mm ca) ((st.map partN).reverse) ⟨Y1, 2⟩ (by with_unfolding_all rfl) (Sta.t (i := 0) HS18 rfl) w17.heap.size (by with_unfolding_all rfl) (Sta.r (i := 0) HS18 (by with_unfolding_all rfl)) (by have := HL.out; have := HM6.out; simp; omega) (Sta.size HS18) ?_); intro v19 w19 hO19 hG19 hb19; obtain ⟨a19, m19, c19, hm19, rfl⟩ := PtO.form hO19; have HS19 := Sta.app 0 HS18 rfl (Nat.le_refl _) hO19 hG19 hb19; have Hm19 := hidP hm19; clear hO19 hG19 hb19 hm19))
          have HS20 := Sta.imp 1 (fun w' => InsAt w' (some ⟨b, o, none⟩) l) HS19 rfl (fun w' h => h.1)
          have HS21 := Sta.imp 0 (fun w' => PtO w' w.heap.size (.slice a19 m19 c19) (((Nd.has x1 :: st).map partN).reverse)) HS20 rfl (fun w' h => by have e : (((Nd.has x1 :: st).map partN).reverse) = ((st.map partN).reverse) ++ [⟨Y1, 2⟩] := (by rw [List.map_cons, List.reverse_cons, partN_has HY.out]); rw [e]; exact h)
          go_roundw
          case rel => exact ⟨k + 1, a19, m19, c19, (Nd.has x1 :: st), by go_num, by go_num, hlt6, HR2, (by have := Hm19.out; show _ = _; simp at this ⊢; omega), Sta.drop 2 0 HS21⟩
          case measure => simp [intOf]; omega
        · as_aux_lemma =>
          have HR2 := hidP ((runN_snoc hkl hx0 hx1 hx2 HR.out).trans hs)
          have HWs := hidP (run_w hkl HR2.out)
          have hfm := PtO.forms (Sta.t (i := 0) HS9 rfl : PtO _ _ (.slice aa mm ca) _)
          subst h
          have HW0 := hidP (run_w (Nat.le_of_lt hkl) HR.out)
          have hk6 : k ≤ 60 := by have h4 := (node_some HF.out).2.1; omega
          subst hst
          obtain ⟨g, rfl, hmc⟩ : ∃ g, aa = some ⟨g, 0, none⟩ ∧ mm ≤ ca := by
            rcases hfm with ⟨_, h0⟩ | ⟨g, c', n', _, h1, h2⟩
            · exact absurd h0 (by simp)
            · injection h1 with e1 e2 e3; subst e1 e2 e3; exact ⟨g, rfl, h2⟩
          obtain ⟨m1, hm1⟩ : ∃ m1, mm = m1 + 1 := ⟨r.length, by have := HL.out; simp at this; omega⟩
          have HL1 : Hid (((r.map partN).reverse).length = m1) := by have := HL.out; simp at this; show _ = _; rw [List.length_reverse, List.length_map]; omega
          have hm60 := HM6.out
          have HM1 := hidP hm1
          clear hfm
          have HW1 : Hid (NdW q1 ∧ cntN q1 ≤ 60) := ⟨HW0.out.1 q1 (by simp), by have h1 := HW0.out.2; have h2 : cntN q1 ≤ sumN (q1 :: r) := (by show cntN q1 ≤ cntN q1 + sumN r; omega); omega⟩
          obtain ⟨P1, hP1⟩ : ∃ y, brkT (decide (3 < opN q1)) (textN q1) = y := ⟨_, rfl⟩
          have sP1 : P1.size ≤ 6004 := by rw [← hP1]; exact Nat.le_trans (brkT_size _ _) (by have := nd_size HW1.out; omega)
          have HP1 := hidP hP1
          clear hP1
          obtain ⟨Y1, hY1⟩ : ∃ y, (⟨#[110, 111, 116, 32]⟩ : ByteArray) ++ P1 = y := ⟨_, rfl⟩
          have y1 : ¬ 9223372036854775807 < 4 + P1.size := by omega
          have HY : Hid (textN (.neg q1) = Y1) := by show _ = _; rw [← hY1, ← HP1.out]; rfl
          have ek : (mm : Int) - 1 = (m1 : Int) := by omega
          have ewk : IntKind.i64.wrap (m1 : Int) = (m1 : Int) := by simp [IntKind.wrap, IntKind.signed, IntKind.bits]; omega
          have lk1 : (m1 : Int) < (mm : Int) := by omega
          have l01 : (0 : Int) ≤ (m1 : Int) := by omega
          clear hm1
          have HS22 := Sta.imp 0 (fun w' => PtO w' w.heap.size (.slice (some ⟨g, 0, none⟩) mm ca) ((r.map partN).reverse ++ [⟨textN q1, opN q1⟩]) ∧ w'.cell? ⟨g, m1 * 2, none⟩ = some (.string (textN q1)) ∧ w'.cell? ⟨g, m1 * 2 + 1, none⟩ = some (.int .i64 (opN q1))) HS9 rfl (fun w' h => pnot_cells h HL1.out)
          have tcHS22_1_0 : wl6.cell? ⟨b, o + k * 3, none⟩ = some (.int .i64 3) := (Sta.t (i := 1) HS22 rfl :).2.1
          have tcHS22_1_1 : wl6.cell? ⟨b, o + k * 3 + 1, none⟩ = some (.string x1) := (Sta.t (i := 1) HS22 rfl :).2.2.1
          have tcHS22_1_2 : wl6.cell? ⟨b, o + k * 3 + 2, none⟩ = some (.string x2) := (Sta.t (i := 1) HS22 rfl :).2.2.2
          go_wp2_with (first
            | ((with_reducible refine wpList_allocV (w := wl6) (by with_unfolding_all rfl) 41 (by with_unfolding_all rfl) [.int .i64 0, .string ⟨#[]⟩, .string ⟨#[]⟩] Try.zT_implIns ?_); intro w23 hA23 hB23 hS23; clear hS23; have HS23 := Sta.new HS22 hA23 hB23 (by simp); clear hA23 hB23; clear tcHS22_1_0 tcHS22_1_1 tcHS22_1_2)
            | ((with_reducible refine wpList_storeS (w := w23) (by with_unfolding_all rfl) 41 (.tmp 5) (.tmp 26) (by with_unfolding_all rfl) wl6.heap.size [.int .i64 0, .string ⟨#[]⟩, .string ⟨#[]⟩] [.int .i64 3, .string x1, .string x2] (by with_unfolding_all rfl) (by with_unfolding_all rfl) (Sta.r (i := 0) HS23 (by with_unfolding_all rfl)) 3 Try.sT_implIns (by with_unfolding_all rfl) (by with_unfolding_all rfl) (by with_unfolding_all rfl) ?_); intro w24 hA24 hO24; have HS24 := Sta.put 0 HS23 rfl hA24 (by simp) hO24; clear hA24 hO24; have cHS24_0_0 : w24.cell? ⟨wl6.heap.size, 0, none⟩ = some (.int .i64 3) := Sta.c (i := 0) HS24 rfl rfl))
          clear cHS24_0_0
          have HS25 := Sta.drew HS24
          refine wp_region_held_drew (S := fun w' => w'.cell? ⟨wl6.heap.size, 0, none⟩ = some (.int .i64 3)) (by kernel_rfl) (Sta.c (i := 0) HS25 rfl rfl) (fun hHeld => ?_)
          generalize w24.drew = w25 at *
          refine wpAnyH_take (i := 0) (oi := ⟨_, _, _, _, _, _⟩) (v := .slice (some ⟨g, 0, none⟩) mm ca) rfl (by kernel_rfl) (by kernel_rfl) (by kernel_rfl) (fun _ _ _ h => h) (Or.inl ⟨wanted_free rfl, fun w' hSw => ?_⟩) hHeld ?_
          · go_simp
          try simp only [Act.put, List.setIfInBounds_toArray, List.set_cons_zero, List.set_cons_succ]
          refine wpAnyH_take (i := 1) (oi := ⟨_, _, _, _, _, _⟩) (v := .int .i64 (mm : Int)) rfl (by kernel_rfl) (by kernel_rfl) (by kernel_rfl) (fun _ _ _ h => h) (Or.inl ⟨wanted_free rfl, fun w' hSw => ?_⟩) hHeld ?_
          · go_simp
          try simp only [Act.put, List.setIfInBounds_toArray, List.set_cons_zero, List.set_cons_succ]
          refine wpAnyH_take (i := 2) (oi := ⟨_, _, _, _, _, _⟩) (v := .int .i64 (m1 : Int)) rfl (by kernel_rfl) (by kernel_rfl) (by kernel_rfl) (fun _ _ _ h => h) (Or.inl ⟨wanted_free rfl, fun w' hSw => ?_⟩) hHeld ?_
          · go_simp
          try simp only [Act.put, List.setIfInBounds_toArray, List.set_cons_zero, List.set_cons_succ]
          refine wpAnyH_take (i := 3) (oi := ⟨_, _, _, _, _, _⟩) (v := .slice (some ⟨g, 0, none⟩) mm ca) rfl (by kernel_rfl) (by kernel_rfl) (by kernel_rfl) (fun _ _ _ h => h) (Or.inl ⟨wanted_free rfl, fun w' hSw => ?_⟩) hHeld ?_
          · go_simp
          try simp only [Act.put, List.setIfInBounds_toArray, List.set_cons_zero, List.set_cons_succ]
          refine wpAnyH_take (i := 4) (oi := ⟨_, _, _, _, _, _⟩) (v := .int .i64 (mm : Int)) rfl (by kernel_rfl) (by kernel_rfl) (by kernel_rfl) (fun _ _ _ h => h) (Or.inl ⟨wanted_free rfl, fun w' hSw => ?_⟩) hHeld ?_
          · go_simp
          try simp only [Act.put, List.setIfInBounds_toArray, List.set_cons_zero, List.set_cons_succ]
          refine wpAnyH_take (i := 5) (oi := ⟨_, _, _, _, _, _⟩) (v := .int .i64 (m1 : Int)) rfl (by kernel_rfl) (by kernel_rfl) (by kernel_rfl) (fun _ _ _ h => h) (Or.inl ⟨wanted_free rfl, fun w' hSw => ?_⟩) hHeld ?_
          · go_simp
          try simp only [Act.put, List.setIfInBounds_toArray, List.set_cons_zero, List.set_cons_succ]
          refine wpAnyH_take (i := 6) (oi := ⟨_, _, _, _, _, _⟩) (v := .pointer (some ⟨g, m1 * 2, none⟩)) rfl (by kernel_rfl) (by kernel_rfl) (by kernel_rfl) (fun _ _ _ h => h) (Or.inl ⟨wanted_free rfl, fun w' hSw => ?_⟩) hHeld ?_
          · go_simp
          try simp only [Act.put, List.setIfInBounds_toArray, List.set_cons_zero, List.set_cons_succ]
          refine wpAnyH_take (i := 8) (oi := ⟨_, _, _, _, _, _⟩) (v := .pointer (some ⟨wl6.heap.size, 0, none⟩)) rfl (by kernel_rfl) (by kernel_rfl) (by kernel_rfl) (fun _ _ _ h => h) (Or.inl ⟨wanted_free rfl, fun w' hSw => ?_⟩) hHeld ?_
          · go_simp
          try simp only [Act.put, List.setIfInBounds_toArray, List.set_cons_zero, List.set_cons_succ]
          refine wpAnyH_take (i := 9) (oi := ⟨_, _, _, _, _, _⟩) (v := .int .i64 3) rfl (by kernel_rfl) (by kernel_rfl) (by kernel_rfl) (fun _ _ _ h => h) (Or.inl ⟨wanted_free rfl, fun w' hSw => ?_⟩) hHeld ?_
          · go_simp
          try simp only [Act.put, List.setIfInBounds_toArray, List.set_cons_zero, List.set_cons_succ]
          refine wpAnyH_take (i := 12) (oi := ⟨_, _, _, _, _, _⟩) (v := .pointer (some ⟨wl6.heap.size, 0, none⟩)) rfl (by kernel_rfl) (by kernel_rfl) (by kernel_rfl) (fun _ _ _ h => h) (Or.inl ⟨wanted_free rfl, fun w' hSw => ?_⟩) hHeld ?_
          · go_simp
          try simp only [Act.put, List.setIfInBounds_toArray, List.set_cons_zero, List.set_cons_succ]
          refine wpAnyH_take (i := 13) (oi := ⟨_, _, _, _, _, _⟩) (v := .int .i64 3) rfl (by kernel_rfl) (by kernel_rfl) (by kernel_rfl) (fun _ _ _ h => h) (Or.inl ⟨wanted_free rfl, fun w' hSw => ?_⟩) hHeld ?_
          · go_simp
          try simp only [Act.put, List.setIfInBounds_toArray, List.set_cons_zero, List.set_cons_succ]
          refine wpAnyH_ready (rs := [7]) (by kernel_rfl) (by simp) (AllReadyH.cons (o := ⟨_, _, _, _, _, _⟩) rfl (fun K hK => ?_) AllReadyH.nil)
          rewrite [if_pos (wanted_free rfl)]
          with_reducible refine wp_ldPt (.tmp 97) (by with_unfolding_all rfl) g (m1 * 2) (textN q1) (opN q1) (by with_unfolding_all rfl) ((Sta.t (i := 0) HS25 rfl :).2.1) ((Sta.t (i := 0) HS25 rfl :).2.2) ?_
          refine hK.out _ _ (Sta.c (i := 0) HS25 rfl rfl) (fun hHeld => ?_)
          clear hK K
          try simp only [Act.put, List.setIfInBounds_toArray, List.set_cons_zero, List.set_cons_succ]
          refine wpAnyH_ready (rs := [10]) (by kernel_rfl) (by simp) (AllReadyH.cons (o := ⟨_, _, _, _, _, _⟩) rfl (fun K hK => ?_) AllReadyH.nil)
          rewrite [if_pos (wanted_free rfl)]
          go_simp
          (with_reducible refine (hC3 w25 q1 r P1 HP1.out HW1.out).mono ?_)
          rintro r w26 ⟨rfl, hB26⟩
          have HS26 := Sta.call HS25 hB26
          clear hB26
          go_wp2_with fail
          refine hK.out _ _ (Sta.c (i := 0) HS26 rfl rfl) (fun hHeld => ?_)
          clear hK K
          try simp only [Act.put, List.setIfInBounds_toArray, List.set_cons_zero, List.set_cons_succ]
          refine wpAnyH_take (i := 11) (oi := ⟨_, _, _, _, _, _⟩) (v := .string Y1) rfl (by kernel_rfl) (by kernel_rfl) (by kernel_rfl) (fun _ _ _ h => h) (Or.inl ⟨wanted_free rfl, fun w' hSw => ?_⟩) hHeld ?_
          · go_simp
          try simp only [Act.put, List.setIfInBounds_toArray, List.set_cons_zero, List.set_cons_succ]
          refine wpAnyH_take (i := 14) (oi := ⟨_, _, _, _, _, _⟩) (v := .agg #[.string Y1, .int .i64 3]) rfl (by kernel_rfl) (by kernel_rfl) (by kernel_rfl) (fun _ _ _ h => h) (Or.inl ⟨wanted_free rfl, fun w' hSw => ?_⟩) hHeld ?_
          · go_simp
          try simp only [Act.put, List.setIfInBounds_toArray, List.set_cons_zero, List.set_cons_succ]
          refine wpAnyH_take (i := 15) (oi := ⟨_, _, _, _, _, _⟩) (v := .pointer (some ⟨g, m1 * 2, none⟩)) rfl (by kernel_rfl) (by kernel_rfl) (by kernel_rfl) (fun _ _ _ h => h) (Or.inl ⟨wanted_free rfl, fun w' hSw => ?_⟩) hHeld ?_
          · go_simp
          try simp only [Act.put, List.setIfInBounds_toArray, List.set_cons_zero, List.set_cons_succ]
          refine wpAnyH_ready (rs := [16]) (by kernel_rfl) (by simp) (AllReadyH.cons (o := ⟨_, _, _, _, _, _⟩) rfl (fun K hK => ?_) AllReadyH.nil)
          rewrite [if_pos (wanted_free rfl)]
          have HS27a := Sta.imp 0 (fun w' => PtO w' w.heap.size (.slice (some ⟨g, 0, none⟩) mm ca) ((r.map partN).reverse ++ [⟨textN q1, opN q1⟩])) HS26 rfl (fun w' h => h.1)
          with_reducible refine wp_setPt (w := w26) (.tmp 106) (.tmp 105) (by with_unfolding_all rfl) w.heap.size g mm ca m1 ((r.map partN).reverse ++ [⟨textN q1, opN q1⟩]) ((r.map partN).reverse ++ [⟨Y1, 3⟩]) Y1 3 (by with_unfolding_all rfl) (by with_unfolding_all rfl) (Sta.t (i := 0) HS27a rfl) (by have := HL1.out; simp; simp at this; omega) (pset_last HL1.out) ?_
          intro w27 hO27 hG27
          have HS27 := Sta.app 0 HS27a rfl (Nat.le_refl _) hO27 hG27 (Or.inl rfl)
          clear hO27 hG27 HS27a
          refine hK.out _ _ (Sta.c (i := 0) HS27 rfl rfl) (fun hHeld => ?_)
          clear hK K
          try simp only [Act.put]
          refine wpAnyH_done (by kernel_rfl) ?_ _
          clear hHeld
          go_wp2_with fail
          have HS28 := Sta.imp 1 (fun w' => InsAt w' (some ⟨b, o, none⟩) l) HS27 rfl (fun w' h => h.1)
          have HS29 := Sta.imp 0 (fun w' => PtO w' w.heap.size (.slice (some ⟨g, 0, none⟩) mm ca) (((Nd.neg q1 :: r).map partN).reverse)) HS28 rfl (fun w' h => by have e : (((Nd.neg q1 :: r).map partN).reverse) = (r.map partN).reverse ++ [⟨Y1, 3⟩] := (by rw [List.map_cons, List.reverse_cons, partN_neg HY.out]); rw [e]; exact h)
          go_roundw
          case rel => exact ⟨k + 1, (some ⟨g, 0, none⟩), mm, ca, (Nd.neg q1 :: r), by go_num, by go_num, hlt6, HR2, (by have := HL.out; show _ = _; simp at this ⊢; omega), Sta.drop 1 0 HS29⟩
          case measure => simp [intOf]; omega
        · as_aux_lemma =>
          have HR2 := hidP ((runN_snoc hkl hx0 hx1 hx2 HR.out).trans hs)
          have HWs := hidP (run_w hkl HR2.out)
          have hfm := PtO.forms (Sta.t (i := 0) HS9 rfl : PtO _ _ (.slice aa mm ca) _)
          subst h
          have HW0 := hidP (run_w (Nat.le_of_lt hkl) HR.out)
          have hk6 : k ≤ 60 := by have h4 := (node_some HF.out).2.1; omega
          subst hst
          obtain ⟨g, rfl, hmc⟩ : ∃ g, aa = some ⟨g, 0, none⟩ ∧ mm ≤ ca := by
            rcases hfm with ⟨_, h0⟩ | ⟨g, c', n', _, h1, h2⟩
            · exact absurd h0 (by simp)
            · injection h1 with e1 e2 e3; subst e1 e2 e3; exact ⟨g, rfl, h2⟩
          obtain ⟨m1, hm1⟩ : ∃ m1, mm = m1 + 2 := ⟨r.length, by have := HL.out; simp at this; omega⟩
          have HL1 : Hid (((r.map partN).reverse).length = m1) := by have := HL.out; simp at this; show _ = _; rw [List.length_reverse, List.length_map]; omega
          have hm60 := HM6.out
          have HM1 := hidP hm1
          clear hfm
          have HW1 : Hid (NdW q1 ∧ cntN q1 ≤ 60) := ⟨HW0.out.1 q1 (by simp), by have h1 := HW0.out.2; have h2 : cntN q1 ≤ sumN (q2 :: q1 :: r) := (by show cntN q1 ≤ cntN q2 + (cntN q1 + sumN r); omega); omega⟩
          have HW2 : Hid (NdW q2 ∧ cntN q2 ≤ 60) := ⟨HW0.out.1 q2 (by simp), by have h1 := HW0.out.2; have h2 : cntN q2 ≤ sumN (q2 :: q1 :: r) := (by show cntN q2 ≤ cntN q2 + (cntN q1 + sumN r); omega); omega⟩
          obtain ⟨P1, hP1⟩ : ∃ y, brkT (decide (4 < opN q1)) (textN q1) = y := ⟨_, rfl⟩
          have sP1 : P1.size ≤ 6004 := by rw [← hP1]; exact Nat.le_trans (brkT_size _ _) (by have := nd_size HW1.out; omega)
          have HP1 := hidP hP1
          clear hP1
          obtain ⟨P2, hP2⟩ : ∃ y, brkT (decide (3 < opN q2)) (textN q2) = y := ⟨_, rfl⟩
          have sP2 : P2.size ≤ 6004 := by rw [← hP2]; exact Nat.le_trans (brkT_size _ _) (by have := nd_size HW2.out; omega)
          have HP2 := hidP hP2
          clear hP2
          obtain ⟨Y1, hY1⟩ : ∃ y, P1 ++ (⟨#[32, 97, 110, 100, 32]⟩ : ByteArray) = y := ⟨_, rfl⟩
          obtain ⟨Y2, hY2⟩ : ∃ y, Y1 ++ P2 = y := ⟨_, rfl⟩
          have z1 : Y1.size = P1.size + 5 := by rw [← hY1, ByteArray.size_append]; rfl
          have y1 : ¬ 9223372036854775807 < P1.size + 5 := by omega
          have y2 : ¬ 9223372036854775807 < Y1.size + P2.size := by omega
          have HY : Hid (textN (.par 4 q1 q2) = Y2) := by show _ = _; rw [← hY2, ← hY1, ← HP1.out, ← HP2.out]; rfl
          obtain ⟨m2, hm2'⟩ : ∃ m2, m2 = m1 + 1 := ⟨_, rfl⟩
          have HM2 := hidP hm2'
          have ek : (mm : Int) - 2 = (m1 : Int) := by omega
          have ek2 : (mm : Int) - 1 = (m2 : Int) := by omega
          have ewk : IntKind.i64.wrap (m1 : Int) = (m1 : Int) := by simp [IntKind.wrap, IntKind.signed, IntKind.bits]; omega
          have ewk2 : IntKind.i64.wrap (m2 : Int) = (m2 : Int) := by simp [IntKind.wrap, IntKind.signed, IntKind.bits]; omega
          have lk1 : (m1 : Int) < (mm : Int) := by omega
          have lk2 : (m2 : Int) < (mm : Int) := by omega
          have l01 : (0 : Int) ≤ (m1 : Int) := by omega
          have l02 : (0 : Int) ≤ (m2 : Int) := by omega
          have sl := Try.sliceLoPt g 0 mm ca m2 (by omega)
          clear hm1 hm2' z1
          have HS30 := Sta.imp 0 (fun w' => PtO w' w.heap.size (.slice (some ⟨g, 0, none⟩) mm ca) ((r.map partN).reverse ++ [⟨textN q1, opN q1⟩, ⟨textN q2, opN q2⟩]) ∧ w'.cell? ⟨g, m1 * 2, none⟩ = some (.string (textN q1)) ∧ w'.cell? ⟨g, m1 * 2 + 1, none⟩ = some (.int .i64 (opN q1)) ∧ w'.cell? ⟨g, m2 * 2, none⟩ = some (.string (textN q2)) ∧ w'.cell? ⟨g, m2 * 2 + 1, none⟩ = some (.int .i64 (opN q2))) HS9 rfl (fun w' h => ppar_cells h HL1.out HM2.out)
          have tcHS30_1_0 : wl6.cell? ⟨b, o + k * 3, none⟩ = some (.int .i64 4) := (Sta.t (i := 1) HS30 rfl :).2.1
          have tcHS30_1_1 : wl6.cell? ⟨b, o + k * 3 + 1, none⟩ = some (.string x1) := (Sta.t (i := 1) HS30 rfl :).2.2.1
          have tcHS30_1_2 : wl6.cell? ⟨b, o + k * 3 + 2, none⟩ = some (.string x2) := (Sta.t (i := 1) HS30 rfl :).2.2.2
          go_wp2_with (first
            | ((with_reducible refine wpList_allocV (w := wl6) (by with_unfolding_all rfl) 41 (by with_unfolding_all rfl) [.int .i64 0, .string ⟨#[]⟩, .string ⟨#[]⟩] Try.zT_implIns ?_); intro w31 hA31 hB31 hS31; clear hS31; have HS31 := Sta.new HS30 hA31 hB31 (by simp); clear hA31 hB31; clear tcHS30_1_0 tcHS30_1_1 tcHS30_1_2)
            | ((with_reducible refine wpList_storeS (w := w31) (by with_unfolding_all rfl) 41 (.tmp 5) (.tmp 26) (by with_unfolding_all rfl) wl6.heap.size [.int .i64 0, .string ⟨#[]⟩, .string ⟨#[]⟩] [.int .i64 4, .string x1, .string x2] (by with_unfolding_all rfl) (by with_unfolding_all rfl) (Sta.r (i := 0) HS31 (by with_unfolding_all rfl)) 3 Try.sT_implIns (by with_unfolding_all rfl) (by with_unfolding_all rfl) (by with_unfolding_all rfl) ?_); intro w32 hA32 hO32; have HS32 := Sta.put 0 HS31 rfl hA32 (by simp) hO32; clear hA32 hO32; have cHS32_0_0 : w32.cell? ⟨wl6.heap.size, 0, none⟩ = some (.int .i64 4) := Sta.c (i := 0) HS32 rfl rfl))
          clear cHS32_0_0
          have HS33 := Sta.drew HS32
          refine wp_region_held_drew (S := fun w' => w'.cell? ⟨wl6.heap.size, 0, none⟩ = some (.int .i64 4)) (by kernel_rfl) (Sta.c (i := 0) HS33 rfl rfl) (fun hHeld => ?_)
          generalize w32.drew = w33 at *
          refine wpAnyH_take (i := 0) (oi := ⟨_, _, _, _, _, _⟩) (v := .slice (some ⟨g, 0, none⟩) mm ca) rfl (by kernel_rfl) (by kernel_rfl) (by kernel_rfl) (fun _ _ _ h => h) (Or.inl ⟨wanted_free rfl, fun w' hSw => ?_⟩) hHeld ?_
          · go_simp
          try simp only [Act.put, List.setIfInBounds_toArray, List.set_cons_zero, List.set_cons_succ]
          refine wpAnyH_take (i := 1) (oi := ⟨_, _, _, _, _, _⟩) (v := .int .i64 (mm : Int)) rfl (by kernel_rfl) (by kernel_rfl) (by kernel_rfl) (fun _ _ _ h => h) (Or.inl ⟨wanted_free rfl, fun w' hSw => ?_⟩) hHeld ?_
          · go_simp
          try simp only [Act.put, List.setIfInBounds_toArray, List.set_cons_zero, List.set_cons_succ]
          refine wpAnyH_take (i := 2) (oi := ⟨_, _, _, _, _, _⟩) (v := .int .i64 (m1 : Int)) rfl (by kernel_rfl) (by kernel_rfl) (by kernel_rfl) (fun _ _ _ h => h) (Or.inl ⟨wanted_free rfl, fun w' hSw => ?_⟩) hHeld ?_
          · go_simp
          try simp only [Act.put, List.setIfInBounds_toArray, List.set_cons_zero, List.set_cons_succ]
          refine wpAnyH_take (i := 3) (oi := ⟨_, _, _, _, _, _⟩) (v := .slice (some ⟨g, 0, none⟩) mm ca) rfl (by kernel_rfl) (by kernel_rfl) (by kernel_rfl) (fun _ _ _ h => h) (Or.inl ⟨wanted_free rfl, fun w' hSw => ?_⟩) hHeld ?_
          · go_simp
          try simp only [Act.put, List.setIfInBounds_toArray, List.set_cons_zero, List.set_cons_succ]
          refine wpAnyH_take (i := 4) (oi := ⟨_, _, _, _, _, _⟩) (v := .int .i64 (mm : Int)) rfl (by kernel_rfl) (by kernel_rfl) (by kernel_rfl) (fun _ _ _ h => h) (Or.inl ⟨wanted_free rfl, fun w' hSw => ?_⟩) hHeld ?_
          · go_simp
          try simp only [Act.put, List.setIfInBounds_toArray, List.set_cons_zero, List.set_cons_succ]
          refine wpAnyH_take (i := 5) (oi := ⟨_, _, _, _, _, _⟩) (v := .int .i64 (m1 : Int)) rfl (by kernel_rfl) (by kernel_rfl) (by kernel_rfl) (fun _ _ _ h => h) (Or.inl ⟨wanted_free rfl, fun w' hSw => ?_⟩) hHeld ?_
          · go_simp
          try simp only [Act.put, List.setIfInBounds_toArray, List.set_cons_zero, List.set_cons_succ]
          refine wpAnyH_take (i := 6) (oi := ⟨_, _, _, _, _, _⟩) (v := .pointer (some ⟨g, m1 * 2, none⟩)) rfl (by kernel_rfl) (by kernel_rfl) (by kernel_rfl) (fun _ _ _ h => h) (Or.inl ⟨wanted_free rfl, fun w' hSw => ?_⟩) hHeld ?_
          · go_simp
          try simp only [Act.put, List.setIfInBounds_toArray, List.set_cons_zero, List.set_cons_succ]
          refine wpAnyH_take (i := 8) (oi := ⟨_, _, _, _, _, _⟩) (v := .pointer (some ⟨wl6.heap.size, 0, none⟩)) rfl (by kernel_rfl) (by kernel_rfl) (by kernel_rfl) (fun _ _ _ h => h) (Or.inl ⟨wanted_free rfl, fun w' hSw => ?_⟩) hHeld ?_
          · go_simp
          try simp only [Act.put, List.setIfInBounds_toArray, List.set_cons_zero, List.set_cons_succ]
          refine wpAnyH_take (i := 9) (oi := ⟨_, _, _, _, _, _⟩) (v := .int .i64 4) rfl (by kernel_rfl) (by kernel_rfl) (by kernel_rfl) (fun _ _ _ h => h) (Or.inl ⟨wanted_free rfl, fun w' hSw => ?_⟩) hHeld ?_
          · go_simp
          try simp only [Act.put, List.setIfInBounds_toArray, List.set_cons_zero, List.set_cons_succ]
          refine wpAnyH_take (i := 11) (oi := ⟨_, _, _, _, _, _⟩) (v := .string ⟨#[32, 97, 110, 100, 32]⟩) rfl (by kernel_rfl) (by kernel_rfl) (by kernel_rfl) (fun _ _ _ h => h) (Or.inl ⟨wanted_free rfl, fun w' hSw => ?_⟩) hHeld ?_
          · go_simp
          try simp only [Act.put, List.setIfInBounds_toArray, List.set_cons_zero, List.set_cons_succ]
          refine wpAnyH_take (i := 13) (oi := ⟨_, _, _, _, _, _⟩) (v := .slice (some ⟨g, 0, none⟩) mm ca) rfl (by kernel_rfl) (by kernel_rfl) (by kernel_rfl) (fun _ _ _ h => h) (Or.inl ⟨wanted_free rfl, fun w' hSw => ?_⟩) hHeld ?_
          · go_simp
          try simp only [Act.put, List.setIfInBounds_toArray, List.set_cons_zero, List.set_cons_succ]
          refine wpAnyH_take (i := 14) (oi := ⟨_, _, _, _, _, _⟩) (v := .int .i64 (mm : Int)) rfl (by kernel_rfl) (by kernel_rfl) (by kernel_rfl) (fun _ _ _ h => h) (Or.inl ⟨wanted_free rfl, fun w' hSw => ?_⟩) hHeld ?_
          · go_simp
          try simp only [Act.put, List.setIfInBounds_toArray, List.set_cons_zero, List.set_cons_succ]
          refine wpAnyH_take (i := 15) (oi := ⟨_, _, _, _, _, _⟩) (v := .int .i64 (m2 : Int)) rfl (by kernel_rfl) (by kernel_rfl) (by kernel_rfl) (fun _ _ _ h => h) (Or.inl ⟨wanted_free rfl, fun w' hSw => ?_⟩) hHeld ?_
          · go_simp
          try simp only [Act.put, List.setIfInBounds_toArray, List.set_cons_zero, List.set_cons_succ]
          refine wpAnyH_take (i := 16) (oi := ⟨_, _, _, _, _, _⟩) (v := .pointer (some ⟨g, m2 * 2, none⟩)) rfl (by kernel_rfl) (by kernel_rfl) (by kernel_rfl) (fun _ _ _ h => h) (Or.inl ⟨wanted_free rfl, fun w' hSw => ?_⟩) hHeld ?_
          · go_simp
          try simp only [Act.put, List.setIfInBounds_toArray, List.set_cons_zero, List.set_cons_succ]
          refine wpAnyH_take (i := 18) (oi := ⟨_, _, _, _, _, _⟩) (v := .pointer (some ⟨wl6.heap.size, 0, none⟩)) rfl (by kernel_rfl) (by kernel_rfl) (by kernel_rfl) (fun _ _ _ h => h) (Or.inl ⟨wanted_free rfl, fun w' hSw => ?_⟩) hHeld ?_
          · go_simp
          try simp only [Act.put, List.setIfInBounds_toArray, List.set_cons_zero, List.set_cons_succ]
          refine wpAnyH_take (i := 19) (oi := ⟨_, _, _, _, _, _⟩) (v := .int .i64 4) rfl (by kernel_rfl) (by kernel_rfl) (by kernel_rfl) (fun _ _ _ h => h) (Or.inl ⟨wanted_free rfl, fun w' hSw => ?_⟩) hHeld ?_
          · go_simp
          try simp only [Act.put, List.setIfInBounds_toArray, List.set_cons_zero, List.set_cons_succ]
          refine wpAnyH_take (i := 22) (oi := ⟨_, _, _, _, _, _⟩) (v := .pointer (some ⟨wl6.heap.size, 0, none⟩)) rfl (by kernel_rfl) (by kernel_rfl) (by kernel_rfl) (fun _ _ _ h => h) (Or.inl ⟨wanted_free rfl, fun w' hSw => ?_⟩) hHeld ?_
          · go_simp
          try simp only [Act.put, List.setIfInBounds_toArray, List.set_cons_zero, List.set_cons_succ]
          refine wpAnyH_take (i := 23) (oi := ⟨_, _, _, _, _, _⟩) (v := .int .i64 4) rfl (by kernel_rfl) (by kernel_rfl) (by kernel_rfl) (fun _ _ _ h => h) (Or.inl ⟨wanted_free rfl, fun w' hSw => ?_⟩) hHeld ?_
          · go_simp
          try simp only [Act.put, List.setIfInBounds_toArray, List.set_cons_zero, List.set_cons_succ]
          refine wpAnyH_ready (rs := [7, 17]) (by kernel_rfl) (by simp) (AllReadyH.cons (o := ⟨_, _, _, _, _, _⟩) rfl (fun K hK => ?_) (AllReadyH.cons (o := ⟨_, _, _, _, _, _⟩) rfl (fun K hK => ?_) AllReadyH.nil))
          · as_aux_lemma =>
            rewrite [if_pos (wanted_free rfl)]
            with_reducible refine wp_ldPt (.tmp 40) (by with_unfolding_all rfl) g (m1 * 2) (textN q1) (opN q1) (by with_unfolding_all rfl) ((Sta.t (i := 0) HS33 rfl :).2.1) ((Sta.t (i := 0) HS33 rfl :).2.2.1) ?_
            refine hK.out _ _ (Sta.c (i := 0) HS33 rfl rfl) (fun hHeld => ?_)
            clear hK K
            try simp only [Act.put, List.setIfInBounds_toArray, List.set_cons_zero, List.set_cons_succ]
            refine wpAnyH_ready (rs := [10, 17]) (by kernel_rfl) (by simp) (AllReadyH.cons (o := ⟨_, _, _, _, _, _⟩) rfl (fun K hK => ?_) (AllReadyH.cons (o := ⟨_, _, _, _, _, _⟩) rfl (fun K hK => ?_) AllReadyH.nil))
            · as_aux_lemma =>
              rewrite [if_pos (wanted_free rfl)]
              go_simp
              (with_reducible refine (hC4 w33 q1 r P1 HP1.out HW1.out).mono ?_)
              rintro r w34 ⟨rfl, hB34⟩
              have HS34 := Sta.call HS33 hB34
              clear hB34
              go_wp2_with fail
              refine hK.out _ _ (Sta.c (i := 0) HS34 rfl rfl) (fun hHeld => ?_)
              clear hK K
              try simp only [Act.put, List.setIfInBounds_toArray, List.set_cons_zero, List.set_cons_succ]
              refine wpAnyH_take (i := 12) (oi := ⟨_, _, _, _, _, _⟩) (v := .string Y1) rfl (by kernel_rfl) (by kernel_rfl) (by kernel_rfl) (fun _ _ _ h => h) (Or.inl ⟨wanted_free rfl, fun w' hSw => ?_⟩) hHeld ?_
              · go_simp
              try simp only [Act.put, List.setIfInBounds_toArray, List.set_cons_zero, List.set_cons_succ]
              refine wpAnyH_ready (rs := [17]) (by kernel_rfl) (by simp) (AllReadyH.cons (o := ⟨_, _, _, _, _, _⟩) rfl (fun K hK => ?_) AllReadyH.nil)
              rewrite [if_pos (wanted_free rfl)]
              with_reducible refine wp_ldPt (.tmp 50) (by with_unfolding_all rfl) g (m2 * 2) (textN q2) (opN q2) (by with_unfolding_all rfl) ((Sta.t (i := 0) HS34 rfl :).2.2.2.1) ((Sta.t (i := 0) HS34 rfl :).2.2.2.2) ?_
              refine hK.out _ _ (Sta.c (i := 0) HS34 rfl rfl) (fun hHeld => ?_)
              clear hK K
              try simp only [Act.put, List.setIfInBounds_toArray, List.set_cons_zero, List.set_cons_succ]
              refine wpAnyH_ready (rs := [20]) (by kernel_rfl) (by simp) (AllReadyH.cons (o := ⟨_, _, _, _, _, _⟩) rfl (fun K hK => ?_) AllReadyH.nil)
              rewrite [if_pos (wanted_free rfl)]
              go_simp
              (with_reducible refine (hC5 w34 r q2 P2 HP2.out HW2.out).mono ?_)
              rintro r w35 ⟨rfl, hB35⟩
              have HS35 := Sta.call HS34 hB35
              clear hB35
              go_wp2_with fail
              refine hK.out _ _ (Sta.c (i := 0) HS35 rfl rfl) (fun hHeld => ?_)
              clear hK K
              try simp only [Act.put, List.setIfInBounds_toArray, List.set_cons_zero, List.set_cons_succ]
              refine wpAnyH_take (i := 21) (oi := ⟨_, _, _, _, _, _⟩) (v := .string Y2) rfl (by kernel_rfl) (by kernel_rfl) (by kernel_rfl) (fun _ _ _ h => h) (Or.inl ⟨wanted_free rfl, fun w' hSw => ?_⟩) hHeld ?_
              · go_simp
              try simp only [Act.put, List.setIfInBounds_toArray, List.set_cons_zero, List.set_cons_succ]
              refine wpAnyH_take (i := 24) (oi := ⟨_, _, _, _, _, _⟩) (v := .agg #[.string Y2, .int .i64 4]) rfl (by kernel_rfl) (by kernel_rfl) (by kernel_rfl) (fun _ _ _ h => h) (Or.inl ⟨wanted_free rfl, fun w' hSw => ?_⟩) hHeld ?_
              · go_simp
              try simp only [Act.put, List.setIfInBounds_toArray, List.set_cons_zero, List.set_cons_succ]
              refine wpAnyH_take (i := 25) (oi := ⟨_, _, _, _, _, _⟩) (v := .pointer (some ⟨g, m1 * 2, none⟩)) rfl (by kernel_rfl) (by kernel_rfl) (by kernel_rfl) (fun _ _ _ h => h) (Or.inl ⟨wanted_free rfl, fun w' hSw => ?_⟩) hHeld ?_
              · go_simp
              try simp only [Act.put, List.setIfInBounds_toArray, List.set_cons_zero, List.set_cons_succ]
              refine wpAnyH_ready (rs := [26]) (by kernel_rfl) (by simp) (AllReadyH.cons (o := ⟨_, _, _, _, _, _⟩) rfl (fun K hK => ?_) AllReadyH.nil)
              rewrite [if_pos (wanted_free rfl)]
              have HS36a := Sta.imp 0 (fun w' => PtO w' w.heap.size (.slice (some ⟨g, 0, none⟩) mm ca) ((r.map partN).reverse ++ [⟨textN q1, opN q1⟩, ⟨textN q2, opN q2⟩])) HS35 rfl (fun w' h => h.1)
              with_reducible refine wp_setPt (w := w35) (.tmp 59) (.tmp 58) (by with_unfolding_all rfl) w.heap.size g mm ca m1 ((r.map partN).reverse ++ [⟨textN q1, opN q1⟩, ⟨textN q2, opN q2⟩]) ((r.map partN).reverse ++ [⟨Y2, 4⟩, ⟨textN q2, opN q2⟩]) Y2 4 (by with_unfolding_all rfl) (by with_unfolding_all rfl) (Sta.t (i := 0) HS36a rfl) (by have := HL1.out; simp; simp at this; omega) (pset_pen HL1.out) ?_
              intro w36 hO36 hG36
              have HS36 := Sta.app 0 HS36a rfl (Nat.le_refl _) hO36 hG36 (Or.inl rfl)
              clear hO36 hG36 HS36a
              refine hK.out _ _ (Sta.c (i := 0) HS36 rfl rfl) (fun hHeld => ?_)
              clear hK K
              try simp only [Act.put]
              refine wpAnyH_done (by kernel_rfl) ?_ _
              clear hHeld
              go_wp2_with fail
              have HS37 := Sta.imp 1 (fun w' => InsAt w' (some ⟨b, o, none⟩) l) HS36 rfl (fun w' h => h.1)
              have HS38 := Sta.imp 0 (fun w' => PtO w' w.heap.size (.slice (some ⟨g, 0, none⟩) m2 ca) (((Nd.par 4 q1 q2 :: r).map partN).reverse)) HS37 rfl (fun w' h => ppar_next (partN_par HY.out) (by have := HL1.out; have := HM2.out; omega) HL1.out h)
              go_roundw
              case rel => exact ⟨k + 1, (some ⟨g, 0, none⟩), m2, ca, (Nd.par 4 q1 q2 :: r), by go_num, by go_num, hlt6, HR2, (by have h1 := HL.out; have h2 := HM1.out; have h3 := HM2.out; show _ = _; simp at h1 ⊢; omega), Sta.drop 1 0 HS38⟩
              case measure => simp [intOf]; omega
            · as_aux_lemma =>
              rewrite [if_pos (wanted_free rfl)]
              with_reducible refine wp_ldPt (.tmp 50) (by with_unfolding_all rfl) g (m2 * 2) (textN q2) (opN q2) (by with_unfolding_all rfl) ((Sta.t (i := 0) HS33 rfl :).2.2.2.1) ((Sta.t (i := 0) HS33 rfl :).2.2.2.2) ?_
              refine hK.out _ _ (Sta.c (i := 0) HS33 rfl rfl) (fun hHeld => ?_)
              clear hK K
              try simp only [Act.put, List.setIfInBounds_toArray, List.set_cons_zero, List.set_cons_succ]
              refine wpAnyH_ready (rs := [10]) (by kernel_rfl) (by simp) (AllReadyH.cons (o := ⟨_, _, _, _, _, _⟩) rfl (fun K hK => ?_) AllReadyH.nil)
              rewrite [if_pos (wanted_free rfl)]
              go_simp
              (with_reducible refine (hC4 w33 q1 r P1 HP1.out HW1.out).mono ?_)
              rintro r w39 ⟨rfl, hB39⟩
              have HS39 := Sta.call HS33 hB39
              clear hB39
              go_wp2_with fail
              refine hK.out _ _ (Sta.c (i := 0) HS39 rfl rfl) (fun hHeld => ?_)
              clear hK K
              try simp only [Act.put, List.setIfInBounds_toArray, List.set_cons_zero, List.set_cons_succ]
              refine wpAnyH_take (i := 12) (oi := ⟨_, _, _, _, _, _⟩) (v := .string Y1) rfl (by kernel_rfl) (by kernel_rfl) (by kernel_rfl) (fun _ _ _ h => h) (Or.inl ⟨wanted_free rfl, fun w' hSw => ?_⟩) hHeld ?_
              · go_simp
              try simp only [Act.put, List.setIfInBounds_toArray, List.set_cons_zero, List.set_cons_succ]
              refine wpAnyH_ready (rs := [20]) (by kernel_rfl) (by simp) (AllReadyH.cons (o := ⟨_, _, _, _, _, _⟩) rfl (fun K hK => ?_) AllReadyH.nil)
              rewrite [if_pos (wanted_free rfl)]
              go_simp
              (with_reducible refine (hC5 w39 r q2 P2 HP2.out HW2.out).mono ?_)
              rintro r w40 ⟨rfl, hB40⟩
              have HS40 := Sta.call HS39 hB40
              clear hB40
              go_wp2_with fail
              refine hK.out _ _ (Sta.c (i := 0) HS40 rfl rfl) (fun hHeld => ?_)
              clear hK K
              try simp only [Act.put, List.setIfInBounds_toArray, List.set_cons_zero, List.set_cons_succ]
              refine wpAnyH_take (i := 21) (oi := ⟨_, _, _, _, _, _⟩) (v := .string Y2) rfl (by kernel_rfl) (by kernel_rfl) (by kernel_rfl) (fun _ _ _ h => h) (Or.inl ⟨wanted_free rfl, fun w' hSw => ?_⟩) hHeld ?_
              · go_simp
              try simp only [Act.put, List.setIfInBounds_toArray, List.set_cons_zero, List.set_cons_succ]
              refine wpAnyH_take (i := 24) (oi := ⟨_, _, _, _, _, _⟩) (v := .agg #[.string Y2, .int .i64 4]) rfl (by kernel_rfl) (by kernel_rfl) (by kernel_rfl) (fun _ _ _ h => h) (Or.inl ⟨wanted_free rfl, fun w' hSw => ?_⟩) hHeld ?_
              · go_simp
              try simp only [Act.put, List.setIfInBounds_toArray, List.set_cons_zero, List.set_cons_succ]
              refine wpAnyH_take (i := 25) (oi := ⟨_, _, _, _, _, _⟩) (v := .pointer (some ⟨g, m1 * 2, none⟩)) rfl (by kernel_rfl) (by kernel_rfl) (by kernel_rfl) (fun _ _ _ h => h) (Or.inl ⟨wanted_free rfl, fun w' hSw => ?_⟩) hHeld ?_
              · go_simp
              try simp only [Act.put, List.setIfInBounds_toArray, List.set_cons_zero, List.set_cons_succ]
              refine wpAnyH_ready (rs := [26]) (by kernel_rfl) (by simp) (AllReadyH.cons (o := ⟨_, _, _, _, _, _⟩) rfl (fun K hK => ?_) AllReadyH.nil)
              rewrite [if_pos (wanted_free rfl)]
              have HS41a := Sta.imp 0 (fun w' => PtO w' w.heap.size (.slice (some ⟨g, 0, none⟩) mm ca) ((r.map partN).reverse ++ [⟨textN q1, opN q1⟩, ⟨textN q2, opN q2⟩])) HS40 rfl (fun w' h => h.1)
              with_reducible refine wp_setPt (w := w40) (.tmp 59) (.tmp 58) (by with_unfolding_all rfl) w.heap.size g mm ca m1 ((r.map partN).reverse ++ [⟨textN q1, opN q1⟩, ⟨textN q2, opN q2⟩]) ((r.map partN).reverse ++ [⟨Y2, 4⟩, ⟨textN q2, opN q2⟩]) Y2 4 (by with_unfolding_all rfl) (by with_unfolding_all rfl) (Sta.t (i := 0) HS41a rfl) (by have := HL1.out; simp; simp at this; omega) (pset_pen HL1.out) ?_
              intro w41 hO41 hG41
              have HS41 := Sta.app 0 HS41a rfl (Nat.le_refl _) hO41 hG41 (Or.inl rfl)
              clear hO41 hG41 HS41a
              refine hK.out _ _ (Sta.c (i := 0) HS41 rfl rfl) (fun hHeld => ?_)
              clear hK K
              try simp only [Act.put]
              refine wpAnyH_done (by kernel_rfl) ?_ _
              clear hHeld
              go_wp2_with fail
              have HS42 := Sta.imp 1 (fun w' => InsAt w' (some ⟨b, o, none⟩) l) HS41 rfl (fun w' h => h.1)
              have HS43 := Sta.imp 0 (fun w' => PtO w' w.heap.size (.slice (some ⟨g, 0, none⟩) m2 ca) (((Nd.par 4 q1 q2 :: r).map partN).reverse)) HS42 rfl (fun w' h => ppar_next (partN_par HY.out) (by have := HL1.out; have := HM2.out; omega) HL1.out h)
              go_roundw
              case rel => exact ⟨k + 1, (some ⟨g, 0, none⟩), m2, ca, (Nd.par 4 q1 q2 :: r), by go_num, by go_num, hlt6, HR2, (by have h1 := HL.out; have h2 := HM1.out; have h3 := HM2.out; show _ = _; simp at h1 ⊢; omega), Sta.drop 1 0 HS43⟩
              case measure => simp [intOf]; omega
          · as_aux_lemma =>
            rewrite [if_pos (wanted_free rfl)]
            with_reducible refine wp_ldPt (.tmp 50) (by with_unfolding_all rfl) g (m2 * 2) (textN q2) (opN q2) (by with_unfolding_all rfl) ((Sta.t (i := 0) HS33 rfl :).2.2.2.1) ((Sta.t (i := 0) HS33 rfl :).2.2.2.2) ?_
            refine hK.out _ _ (Sta.c (i := 0) HS33 rfl rfl) (fun hHeld => ?_)
            clear hK K
            try simp only [Act.put, List.setIfInBounds_toArray, List.set_cons_zero, List.set_cons_succ]
            refine wpAnyH_ready (rs := [7]) (by kernel_rfl) (by simp) (AllReadyH.cons (o := ⟨_, _, _, _, _, _⟩) rfl (fun K hK => ?_) AllReadyH.nil)
            rewrite [if_pos (wanted_free rfl)]
            with_reducible refine wp_ldPt (.tmp 40) (by with_unfolding_all rfl) g (m1 * 2) (textN q1) (opN q1) (by with_unfolding_all rfl) ((Sta.t (i := 0) HS33 rfl :).2.1) ((Sta.t (i := 0) HS33 rfl :).2.2.1) ?_
            refine hK.out _ _ (Sta.c (i := 0) HS33 rfl rfl) (fun hHeld => ?_)
            clear hK K
            try simp only [Act.put, List.setIfInBounds_toArray, List.set_cons_zero, List.set_cons_succ]
            refine wpAnyH_ready (rs := [10]) (by kernel_rfl) (by simp) (AllReadyH.cons (o := ⟨_, _, _, _, _, _⟩) rfl (fun K hK => ?_) AllReadyH.nil)
            rewrite [if_pos (wanted_free rfl)]
            go_simp
            (with_reducible refine (hC4 w33 q1 r P1 HP1.out HW1.out).mono ?_)
            rintro r w44 ⟨rfl, hB44⟩
            have HS44 := Sta.call HS33 hB44
            clear hB44
            go_wp2_with fail
            refine hK.out _ _ (Sta.c (i := 0) HS44 rfl rfl) (fun hHeld => ?_)
            clear hK K
            try simp only [Act.put, List.setIfInBounds_toArray, List.set_cons_zero, List.set_cons_succ]
            refine wpAnyH_take (i := 12) (oi := ⟨_, _, _, _, _, _⟩) (v := .string Y1) rfl (by kernel_rfl) (by kernel_rfl) (by kernel_rfl) (fun _ _ _ h => h) (Or.inl ⟨wanted_free rfl, fun w' hSw => ?_⟩) hHeld ?_
            · go_simp
            try simp only [Act.put, List.setIfInBounds_toArray, List.set_cons_zero, List.set_cons_succ]
            refine wpAnyH_ready (rs := [20]) (by kernel_rfl) (by simp) (AllReadyH.cons (o := ⟨_, _, _, _, _, _⟩) rfl (fun K hK => ?_) AllReadyH.nil)
            rewrite [if_pos (wanted_free rfl)]
            go_simp
            (with_reducible refine (hC5 w44 r q2 P2 HP2.out HW2.out).mono ?_)
            rintro r w45 ⟨rfl, hB45⟩
            have HS45 := Sta.call HS44 hB45
            clear hB45
            go_wp2_with fail
            refine hK.out _ _ (Sta.c (i := 0) HS45 rfl rfl) (fun hHeld => ?_)
            clear hK K
            try simp only [Act.put, List.setIfInBounds_toArray, List.set_cons_zero, List.set_cons_succ]
            refine wpAnyH_take (i := 21) (oi := ⟨_, _, _, _, _, _⟩) (v := .string Y2) rfl (by kernel_rfl) (by kernel_rfl) (by kernel_rfl) (fun _ _ _ h => h) (Or.inl ⟨wanted_free rfl, fun w' hSw => ?_⟩) hHeld ?_
            · go_simp
            try simp only [Act.put, List.setIfInBounds_toArray, List.set_cons_zero, List.set_cons_succ]
            refine wpAnyH_take (i := 24) (oi := ⟨_, _, _, _, _, _⟩) (v := .agg #[.string Y2, .int .i64 4]) rfl (by kernel_rfl) (by kernel_rfl) (by kernel_rfl) (fun _ _ _ h => h) (Or.inl ⟨wanted_free rfl, fun w' hSw => ?_⟩) hHeld ?_
            · go_simp
            try simp only [Act.put, List.setIfInBounds_toArray, List.set_cons_zero, List.set_cons_succ]
            refine wpAnyH_take (i := 25) (oi := ⟨_, _, _, _, _, _⟩) (v := .pointer (some ⟨g, m1 * 2, none⟩)) rfl (by kernel_rfl) (by kernel_rfl) (by kernel_rfl) (fun _ _ _ h => h) (Or.inl ⟨wanted_free rfl, fun w' hSw => ?_⟩) hHeld ?_
            · go_simp
            try simp only [Act.put, List.setIfInBounds_toArray, List.set_cons_zero, List.set_cons_succ]
            refine wpAnyH_ready (rs := [26]) (by kernel_rfl) (by simp) (AllReadyH.cons (o := ⟨_, _, _, _, _, _⟩) rfl (fun K hK => ?_) AllReadyH.nil)
            rewrite [if_pos (wanted_free rfl)]
            have HS46a := Sta.imp 0 (fun w' => PtO w' w.heap.size (.slice (some ⟨g, 0, none⟩) mm ca) ((r.map partN).reverse ++ [⟨textN q1, opN q1⟩, ⟨textN q2, opN q2⟩])) HS45 rfl (fun w' h => h.1)
            with_reducible refine wp_setPt (w := w45) (.tmp 59) (.tmp 58) (by with_unfolding_all rfl) w.heap.size g mm ca m1 ((r.map partN).reverse ++ [⟨textN q1, opN q1⟩, ⟨textN q2, opN q2⟩]) ((r.map partN).reverse ++ [⟨Y2, 4⟩, ⟨textN q2, opN q2⟩]) Y2 4 (by with_unfolding_all rfl) (by with_unfolding_all rfl) (Sta.t (i := 0) HS46a rfl) (by have := HL1.out; simp; simp at this; omega) (pset_pen HL1.out) ?_
            intro w46 hO46 hG46
            have HS46 := Sta.app 0 HS46a rfl (Nat.le_refl _) hO46 hG46 (Or.inl rfl)
            clear hO46 hG46 HS46a
            refine hK.out _ _ (Sta.c (i := 0) HS46 rfl rfl) (fun hHeld => ?_)
            clear hK K
            try simp only [Act.put]
            refine wpAnyH_done (by kernel_rfl) ?_ _
            clear hHeld
            go_wp2_with fail
            have HS47 := Sta.imp 1 (fun w' => InsAt w' (some ⟨b, o, none⟩) l) HS46 rfl (fun w' h => h.1)
            have HS48 := Sta.imp 0 (fun w' => PtO w' w.heap.size (.slice (some ⟨g, 0, none⟩) m2 ca) (((Nd.par 4 q1 q2 :: r).map partN).reverse)) HS47 rfl (fun w' h => ppar_next (partN_par HY.out) (by have := HL1.out; have := HM2.out; omega) HL1.out h)
            go_roundw
            case rel => exact ⟨k + 1, (some ⟨g, 0, none⟩), m2, ca, (Nd.par 4 q1 q2 :: r), by go_num, by go_num, hlt6, HR2, (by have h1 := HL.out; have h2 := HM1.out; have h3 := HM2.out; show _ = _; simp at h1 ⊢; omega), Sta.drop 1 0 HS48⟩
            case measure => simp [intOf]; omega
        · as_aux_lemma =>
          have HR2 := hidP ((runN_snoc hkl hx0 hx1 hx2 HR.out).trans hs)
          have HWs := hidP (run_w hkl HR2.out)
          have hfm := PtO.forms (Sta.t (i := 0) HS9 rfl : PtO _ _ (.slice aa mm ca) _)
          subst h
          have HW0 := hidP (run_w (Nat.le_of_lt hkl) HR.out)
          have hk6 : k ≤ 60 := by have h4 := (node_some HF.out).2.1; omega
          subst hst
          obtain ⟨g, rfl, hmc⟩ : ∃ g, aa = some ⟨g, 0, none⟩ ∧ mm ≤ ca := by
            rcases hfm with ⟨_, h0⟩ | ⟨g, c', n', _, h1, h2⟩
            · exact absurd h0 (by simp)
            · injection h1 with e1 e2 e3; subst e1 e2 e3; exact ⟨g, rfl, h2⟩
          obtain ⟨m1, hm1⟩ : ∃ m1, mm = m1 + 2 := ⟨r.length, by have := HL.out; simp at this; omega⟩
          have HL1 : Hid (((r.map partN).reverse).length = m1) := by have := HL.out; simp at this; show _ = _; rw [List.length_reverse, List.length_map]; omega
          have hm60 := HM6.out
          have HM1 := hidP hm1
          clear hfm
          have HW1 : Hid (NdW q1 ∧ cntN q1 ≤ 60) := ⟨HW0.out.1 q1 (by simp), by have h1 := HW0.out.2; have h2 : cntN q1 ≤ sumN (q2 :: q1 :: r) := (by show cntN q1 ≤ cntN q2 + (cntN q1 + sumN r); omega); omega⟩
          have HW2 : Hid (NdW q2 ∧ cntN q2 ≤ 60) := ⟨HW0.out.1 q2 (by simp), by have h1 := HW0.out.2; have h2 : cntN q2 ≤ sumN (q2 :: q1 :: r) := (by show cntN q2 ≤ cntN q2 + (cntN q1 + sumN r); omega); omega⟩
          obtain ⟨P1, hP1⟩ : ∃ y, brkT (decide (5 < opN q1)) (textN q1) = y := ⟨_, rfl⟩
          have sP1 : P1.size ≤ 6004 := by rw [← hP1]; exact Nat.le_trans (brkT_size _ _) (by have := nd_size HW1.out; omega)
          have HP1 := hidP hP1
          clear hP1
          obtain ⟨P2, hP2⟩ : ∃ y, brkT (decide (4 < opN q2)) (textN q2) = y := ⟨_, rfl⟩
          have sP2 : P2.size ≤ 6004 := by rw [← hP2]; exact Nat.le_trans (brkT_size _ _) (by have := nd_size HW2.out; omega)
          have HP2 := hidP hP2
          clear hP2
          obtain ⟨Y1, hY1⟩ : ∃ y, P1 ++ (⟨#[32, 111, 114, 32]⟩ : ByteArray) = y := ⟨_, rfl⟩
          obtain ⟨Y2, hY2⟩ : ∃ y, Y1 ++ P2 = y := ⟨_, rfl⟩
          have z1 : Y1.size = P1.size + 4 := by rw [← hY1, ByteArray.size_append]; rfl
          have y1 : ¬ 9223372036854775807 < P1.size + 4 := by omega
          have y2 : ¬ 9223372036854775807 < Y1.size + P2.size := by omega
          have HY : Hid (textN (.par 5 q1 q2) = Y2) := by show _ = _; rw [← hY2, ← hY1, ← HP1.out, ← HP2.out]; rfl
          obtain ⟨m2, hm2'⟩ : ∃ m2, m2 = m1 + 1 := ⟨_, rfl⟩
          have HM2 := hidP hm2'
          have ek : (mm : Int) - 2 = (m1 : Int) := by omega
          have ek2 : (mm : Int) - 1 = (m2 : Int) := by omega
          have ewk : IntKind.i64.wrap (m1 : Int) = (m1 : Int) := by simp [IntKind.wrap, IntKind.signed, IntKind.bits]; omega
          have ewk2 : IntKind.i64.wrap (m2 : Int) = (m2 : Int) := by simp [IntKind.wrap, IntKind.signed, IntKind.bits]; omega
          have lk1 : (m1 : Int) < (mm : Int) := by omega
          have lk2 : (m2 : Int) < (mm : Int) := by omega
          have l01 : (0 : Int) ≤ (m1 : Int) := by omega
          have l02 : (0 : Int) ≤ (m2 : Int) := by omega
          have sl := Try.sliceLoPt g 0 mm ca m2 (by omega)
          clear hm1 hm2' z1
          have HS49 := Sta.imp 0 (fun w' => PtO w' w.heap.size (.slice (some ⟨g, 0, none⟩) mm ca) ((r.map partN).reverse ++ [⟨textN q1, opN q1⟩, ⟨textN q2, opN q2⟩]) ∧ w'.cell? ⟨g, m1 * 2, none⟩ = some (.string (textN q1)) ∧ w'.cell? ⟨g, m1 * 2 + 1, none⟩ = some (.int .i64 (opN q1)) ∧ w'.cell? ⟨g, m2 * 2, none⟩ = some (.string (textN q2)) ∧ w'.cell? ⟨g, m2 * 2 + 1, none⟩ = some (.int .i64 (opN q2))) HS9 rfl (fun w' h => ppar_cells h HL1.out HM2.out)
          have tcHS49_1_0 : wl6.cell? ⟨b, o + k * 3, none⟩ = some (.int .i64 5) := (Sta.t (i := 1) HS49 rfl :).2.1
          have tcHS49_1_1 : wl6.cell? ⟨b, o + k * 3 + 1, none⟩ = some (.string x1) := (Sta.t (i := 1) HS49 rfl :).2.2.1
          have tcHS49_1_2 : wl6.cell? ⟨b, o + k * 3 + 2, none⟩ = some (.string x2) := (Sta.t (i := 1) HS49 rfl :).2.2.2
          go_wp2_with (first
            | ((with_reducible refine wpList_allocV (w := wl6) (by with_unfolding_all rfl) 41 (by with_unfolding_all rfl) [.int .i64 0, .string ⟨#[]⟩, .string ⟨#[]⟩] Try.zT_implIns ?_); intro w50 hA50 hB50 hS50; clear hS50; have HS50 := Sta.new HS49 hA50 hB50 (by simp); clear hA50 hB50; clear tcHS49_1_0 tcHS49_1_1 tcHS49_1_2)
            | ((with_reducible refine wpList_storeS (w := w50) (by with_unfolding_all rfl) 41 (.tmp 5) (.tmp 26) (by with_unfolding_all rfl) wl6.heap.size [.int .i64 0, .string ⟨#[]⟩, .string ⟨#[]⟩] [.int .i64 5, .string x1, .string x2] (by with_unfolding_all rfl) (by with_unfolding_all rfl) (Sta.r (i := 0) HS50 (by with_unfolding_all rfl)) 3 Try.sT_implIns (by with_unfolding_all rfl) (by with_unfolding_all rfl) (by with_unfolding_all rfl) ?_); intro w51 hA51 hO51; have HS51 := Sta.put 0 HS50 rfl hA51 (by simp) hO51; clear hA51 hO51; have cHS51_0_0 : w51.cell? ⟨wl6.heap.size, 0, none⟩ = some (.int .i64 5) := Sta.c (i := 0) HS51 rfl rfl))
          clear cHS51_0_0
          have HS52 := Sta.drew HS51
          refine wp_region_held_drew (S := fun w' => w'.cell? ⟨wl6.heap.size, 0, none⟩ = some (.int .i64 5)) (by kernel_rfl) (Sta.c (i := 0) HS52 rfl rfl) (fun hHeld => ?_)
          generalize w51.drew = w52 at *
          refine wpAnyH_take (i := 0) (oi := ⟨_, _, _, _, _, _⟩) (v := .slice (some ⟨g, 0, none⟩) mm ca) rfl (by kernel_rfl) (by kernel_rfl) (by kernel_rfl) (fun _ _ _ h => h) (Or.inl ⟨wanted_free rfl, fun w' hSw => ?_⟩) hHeld ?_
          · go_simp
          try simp only [Act.put, List.setIfInBounds_toArray, List.set_cons_zero, List.set_cons_succ]
          refine wpAnyH_take (i := 1) (oi := ⟨_, _, _, _, _, _⟩) (v := .int .i64 (mm : Int)) rfl (by kernel_rfl) (by kernel_rfl) (by kernel_rfl) (fun _ _ _ h => h) (Or.inl ⟨wanted_free rfl, fun w' hSw => ?_⟩) hHeld ?_
          · go_simp
          try simp only [Act.put, List.setIfInBounds_toArray, List.set_cons_zero, List.set_cons_succ]
          refine wpAnyH_take (i := 2) (oi := ⟨_, _, _, _, _, _⟩) (v := .int .i64 (m1 : Int)) rfl (by kernel_rfl) (by kernel_rfl) (by kernel_rfl) (fun _ _ _ h => h) (Or.inl ⟨wanted_free rfl, fun w' hSw => ?_⟩) hHeld ?_
          · go_simp
          try simp only [Act.put, List.setIfInBounds_toArray, List.set_cons_zero, List.set_cons_succ]
          refine wpAnyH_take (i := 3) (oi := ⟨_, _, _, _, _, _⟩) (v := .slice (some ⟨g, 0, none⟩) mm ca) rfl (by kernel_rfl) (by kernel_rfl) (by kernel_rfl) (fun _ _ _ h => h) (Or.inl ⟨wanted_free rfl, fun w' hSw => ?_⟩) hHeld ?_
          · go_simp
          try simp only [Act.put, List.setIfInBounds_toArray, List.set_cons_zero, List.set_cons_succ]
          refine wpAnyH_take (i := 4) (oi := ⟨_, _, _, _, _, _⟩) (v := .int .i64 (mm : Int)) rfl (by kernel_rfl) (by kernel_rfl) (by kernel_rfl) (fun _ _ _ h => h) (Or.inl ⟨wanted_free rfl, fun w' hSw => ?_⟩) hHeld ?_
          · go_simp
          try simp only [Act.put, List.setIfInBounds_toArray, List.set_cons_zero, List.set_cons_succ]
          refine wpAnyH_take (i := 5) (oi := ⟨_, _, _, _, _, _⟩) (v := .int .i64 (m1 : Int)) rfl (by kernel_rfl) (by kernel_rfl) (by kernel_rfl) (fun _ _ _ h => h) (Or.inl ⟨wanted_free rfl, fun w' hSw => ?_⟩) hHeld ?_
          · go_simp
          try simp only [Act.put, List.setIfInBounds_toArray, List.set_cons_zero, List.set_cons_succ]
          refine wpAnyH_take (i := 6) (oi := ⟨_, _, _, _, _, _⟩) (v := .pointer (some ⟨g, m1 * 2, none⟩)) rfl (by kernel_rfl) (by kernel_rfl) (by kernel_rfl) (fun _ _ _ h => h) (Or.inl ⟨wanted_free rfl, fun w' hSw => ?_⟩) hHeld ?_
          · go_simp
          try simp only [Act.put, List.setIfInBounds_toArray, List.set_cons_zero, List.set_cons_succ]
          refine wpAnyH_take (i := 8) (oi := ⟨_, _, _, _, _, _⟩) (v := .pointer (some ⟨wl6.heap.size, 0, none⟩)) rfl (by kernel_rfl) (by kernel_rfl) (by kernel_rfl) (fun _ _ _ h => h) (Or.inl ⟨wanted_free rfl, fun w' hSw => ?_⟩) hHeld ?_
          · go_simp
          try simp only [Act.put, List.setIfInBounds_toArray, List.set_cons_zero, List.set_cons_succ]
          refine wpAnyH_take (i := 9) (oi := ⟨_, _, _, _, _, _⟩) (v := .int .i64 5) rfl (by kernel_rfl) (by kernel_rfl) (by kernel_rfl) (fun _ _ _ h => h) (Or.inl ⟨wanted_free rfl, fun w' hSw => ?_⟩) hHeld ?_
          · go_simp
          try simp only [Act.put, List.setIfInBounds_toArray, List.set_cons_zero, List.set_cons_succ]
          refine wpAnyH_take (i := 11) (oi := ⟨_, _, _, _, _, _⟩) (v := .string ⟨#[32, 111, 114, 32]⟩) rfl (by kernel_rfl) (by kernel_rfl) (by kernel_rfl) (fun _ _ _ h => h) (Or.inl ⟨wanted_free rfl, fun w' hSw => ?_⟩) hHeld ?_
          · go_simp
          try simp only [Act.put, List.setIfInBounds_toArray, List.set_cons_zero, List.set_cons_succ]
          refine wpAnyH_take (i := 13) (oi := ⟨_, _, _, _, _, _⟩) (v := .slice (some ⟨g, 0, none⟩) mm ca) rfl (by kernel_rfl) (by kernel_rfl) (by kernel_rfl) (fun _ _ _ h => h) (Or.inl ⟨wanted_free rfl, fun w' hSw => ?_⟩) hHeld ?_
          · go_simp
          try simp only [Act.put, List.setIfInBounds_toArray, List.set_cons_zero, List.set_cons_succ]
          refine wpAnyH_take (i := 14) (oi := ⟨_, _, _, _, _, _⟩) (v := .int .i64 (mm : Int)) rfl (by kernel_rfl) (by kernel_rfl) (by kernel_rfl) (fun _ _ _ h => h) (Or.inl ⟨wanted_free rfl, fun w' hSw => ?_⟩) hHeld ?_
          · go_simp
          try simp only [Act.put, List.setIfInBounds_toArray, List.set_cons_zero, List.set_cons_succ]
          refine wpAnyH_take (i := 15) (oi := ⟨_, _, _, _, _, _⟩) (v := .int .i64 (m2 : Int)) rfl (by kernel_rfl) (by kernel_rfl) (by kernel_rfl) (fun _ _ _ h => h) (Or.inl ⟨wanted_free rfl, fun w' hSw => ?_⟩) hHeld ?_
          · go_simp
          try simp only [Act.put, List.setIfInBounds_toArray, List.set_cons_zero, List.set_cons_succ]
          refine wpAnyH_take (i := 16) (oi := ⟨_, _, _, _, _, _⟩) (v := .pointer (some ⟨g, m2 * 2, none⟩)) rfl (by kernel_rfl) (by kernel_rfl) (by kernel_rfl) (fun _ _ _ h => h) (Or.inl ⟨wanted_free rfl, fun w' hSw => ?_⟩) hHeld ?_
          · go_simp
          try simp only [Act.put, List.setIfInBounds_toArray, List.set_cons_zero, List.set_cons_succ]
          refine wpAnyH_take (i := 18) (oi := ⟨_, _, _, _, _, _⟩) (v := .pointer (some ⟨wl6.heap.size, 0, none⟩)) rfl (by kernel_rfl) (by kernel_rfl) (by kernel_rfl) (fun _ _ _ h => h) (Or.inl ⟨wanted_free rfl, fun w' hSw => ?_⟩) hHeld ?_
          · go_simp
          try simp only [Act.put, List.setIfInBounds_toArray, List.set_cons_zero, List.set_cons_succ]
          refine wpAnyH_take (i := 19) (oi := ⟨_, _, _, _, _, _⟩) (v := .int .i64 5) rfl (by kernel_rfl) (by kernel_rfl) (by kernel_rfl) (fun _ _ _ h => h) (Or.inl ⟨wanted_free rfl, fun w' hSw => ?_⟩) hHeld ?_
          · go_simp
          try simp only [Act.put, List.setIfInBounds_toArray, List.set_cons_zero, List.set_cons_succ]
          refine wpAnyH_take (i := 22) (oi := ⟨_, _, _, _, _, _⟩) (v := .pointer (some ⟨wl6.heap.size, 0, none⟩)) rfl (by kernel_rfl) (by kernel_rfl) (by kernel_rfl) (fun _ _ _ h => h) (Or.inl ⟨wanted_free rfl, fun w' hSw => ?_⟩) hHeld ?_
          · go_simp
          try simp only [Act.put, List.setIfInBounds_toArray, List.set_cons_zero, List.set_cons_succ]
          refine wpAnyH_take (i := 23) (oi := ⟨_, _, _, _, _, _⟩) (v := .int .i64 5) rfl (by kernel_rfl) (by kernel_rfl) (by kernel_rfl) (fun _ _ _ h => h) (Or.inl ⟨wanted_free rfl, fun w' hSw => ?_⟩) hHeld ?_
          · go_simp
          try simp only [Act.put, List.setIfInBounds_toArray, List.set_cons_zero, List.set_cons_succ]
          refine wpAnyH_ready (rs := [7, 17]) (by kernel_rfl) (by simp) (AllReadyH.cons (o := ⟨_, _, _, _, _, _⟩) rfl (fun K hK => ?_) (AllReadyH.cons (o := ⟨_, _, _, _, _, _⟩) rfl (fun K hK => ?_) AllReadyH.nil))
          · as_aux_lemma =>
            rewrite [if_pos (wanted_free rfl)]
            with_reducible refine wp_ldPt (.tmp 40) (by with_unfolding_all rfl) g (m1 * 2) (textN q1) (opN q1) (by with_unfolding_all rfl) ((Sta.t (i := 0) HS52 rfl :).2.1) ((Sta.t (i := 0) HS52 rfl :).2.2.1) ?_
            refine hK.out _ _ (Sta.c (i := 0) HS52 rfl rfl) (fun hHeld => ?_)
            clear hK K
            try simp only [Act.put, List.setIfInBounds_toArray, List.set_cons_zero, List.set_cons_succ]
            refine wpAnyH_ready (rs := [10, 17]) (by kernel_rfl) (by simp) (AllReadyH.cons (o := ⟨_, _, _, _, _, _⟩) rfl (fun K hK => ?_) (AllReadyH.cons (o := ⟨_, _, _, _, _, _⟩) rfl (fun K hK => ?_) AllReadyH.nil))
            · as_aux_lemma =>
              rewrite [if_pos (wanted_free rfl)]
              go_simp
              (with_reducible refine (hC6 w52 q1 r P1 HP1.out HW1.out).mono ?_)
              rintro r w53 ⟨rfl, hB53⟩
              have HS53 := Sta.call HS52 hB53
              clear hB53
              go_wp2_with fail
              refine hK.out _ _ (Sta.c (i := 0) HS53 rfl rfl) (fun hHeld => ?_)
              clear hK K
              try simp only [Act.put, List.setIfInBounds_toArray, List.set_cons_zero, List.set_cons_succ]
              refine wpAnyH_take (i := 12) (oi := ⟨_, _, _, _, _, _⟩) (v := .string Y1) rfl (by kernel_rfl) (by kernel_rfl) (by kernel_rfl) (fun _ _ _ h => h) (Or.inl ⟨wanted_free rfl, fun w' hSw => ?_⟩) hHeld ?_
              · go_simp
              try simp only [Act.put, List.setIfInBounds_toArray, List.set_cons_zero, List.set_cons_succ]
              refine wpAnyH_ready (rs := [17]) (by kernel_rfl) (by simp) (AllReadyH.cons (o := ⟨_, _, _, _, _, _⟩) rfl (fun K hK => ?_) AllReadyH.nil)
              rewrite [if_pos (wanted_free rfl)]
              with_reducible refine wp_ldPt (.tmp 50) (by with_unfolding_all rfl) g (m2 * 2) (textN q2) (opN q2) (by with_unfolding_all rfl) ((Sta.t (i := 0) HS53 rfl :).2.2.2.1) ((Sta.t (i := 0) HS53 rfl :).2.2.2.2) ?_
              refine hK.out _ _ (Sta.c (i := 0) HS53 rfl rfl) (fun hHeld => ?_)
              clear hK K
              try simp only [Act.put, List.setIfInBounds_toArray, List.set_cons_zero, List.set_cons_succ]
              refine wpAnyH_ready (rs := [20]) (by kernel_rfl) (by simp) (AllReadyH.cons (o := ⟨_, _, _, _, _, _⟩) rfl (fun K hK => ?_) AllReadyH.nil)
              rewrite [if_pos (wanted_free rfl)]
              go_simp
              (with_reducible refine (hC7 w53 r q2 P2 HP2.out HW2.out).mono ?_)
              rintro r w54 ⟨rfl, hB54⟩
              have HS54 := Sta.call HS53 hB54
              clear hB54
              go_wp2_with fail
              refine hK.out _ _ (Sta.c (i := 0) HS54 rfl rfl) (fun hHeld => ?_)
              clear hK K
              try simp only [Act.put, List.setIfInBounds_toArray, List.set_cons_zero, List.set_cons_succ]
              refine wpAnyH_take (i := 21) (oi := ⟨_, _, _, _, _, _⟩) (v := .string Y2) rfl (by kernel_rfl) (by kernel_rfl) (by kernel_rfl) (fun _ _ _ h => h) (Or.inl ⟨wanted_free rfl, fun w' hSw => ?_⟩) hHeld ?_
              · go_simp
              try simp only [Act.put, List.setIfInBounds_toArray, List.set_cons_zero, List.set_cons_succ]
              refine wpAnyH_take (i := 24) (oi := ⟨_, _, _, _, _, _⟩) (v := .agg #[.string Y2, .int .i64 5]) rfl (by kernel_rfl) (by kernel_rfl) (by kernel_rfl) (fun _ _ _ h => h) (Or.inl ⟨wanted_free rfl, fun w' hSw => ?_⟩) hHeld ?_
              · go_simp
              try simp only [Act.put, List.setIfInBounds_toArray, List.set_cons_zero, List.set_cons_succ]
              refine wpAnyH_take (i := 25) (oi := ⟨_, _, _, _, _, _⟩) (v := .pointer (some ⟨g, m1 * 2, none⟩)) rfl (by kernel_rfl) (by kernel_rfl) (by kernel_rfl) (fun _ _ _ h => h) (Or.inl ⟨wanted_free rfl, fun w' hSw => ?_⟩) hHeld ?_
              · go_simp
              try simp only [Act.put, List.setIfInBounds_toArray, List.set_cons_zero, List.set_cons_succ]
              refine wpAnyH_ready (rs := [26]) (by kernel_rfl) (by simp) (AllReadyH.cons (o := ⟨_, _, _, _, _, _⟩) rfl (fun K hK => ?_) AllReadyH.nil)
              rewrite [if_pos (wanted_free rfl)]
              have HS55a := Sta.imp 0 (fun w' => PtO w' w.heap.size (.slice (some ⟨g, 0, none⟩) mm ca) ((r.map partN).reverse ++ [⟨textN q1, opN q1⟩, ⟨textN q2, opN q2⟩])) HS54 rfl (fun w' h => h.1)
              with_reducible refine wp_setPt (w := w54) (.tmp 59) (.tmp 58) (by with_unfolding_all rfl) w.heap.size g mm ca m1 ((r.map partN).reverse ++ [⟨textN q1, opN q1⟩, ⟨textN q2, opN q2⟩]) ((r.map partN).reverse ++ [⟨Y2, 5⟩, ⟨textN q2, opN q2⟩]) Y2 5 (by with_unfolding_all rfl) (by with_unfolding_all rfl) (Sta.t (i := 0) HS55a rfl) (by have := HL1.out; simp; simp at this; omega) (pset_pen HL1.out) ?_
              intro w55 hO55 hG55
              have HS55 := Sta.app 0 HS55a rfl (Nat.le_refl _) hO55 hG55 (Or.inl rfl)
              clear hO55 hG55 HS55a
              refine hK.out _ _ (Sta.c (i := 0) HS55 rfl rfl) (fun hHeld => ?_)
              clear hK K
              try simp only [Act.put]
              refine wpAnyH_done (by kernel_rfl) ?_ _
              clear hHeld
              go_wp2_with fail
              have HS56 := Sta.imp 1 (fun w' => InsAt w' (some ⟨b, o, none⟩) l) HS55 rfl (fun w' h => h.1)
              have HS57 := Sta.imp 0 (fun w' => PtO w' w.heap.size (.slice (some ⟨g, 0, none⟩) m2 ca) (((Nd.par 5 q1 q2 :: r).map partN).reverse)) HS56 rfl (fun w' h => ppar_next (partN_par HY.out) (by have := HL1.out; have := HM2.out; omega) HL1.out h)
              go_roundw
              case rel => exact ⟨k + 1, (some ⟨g, 0, none⟩), m2, ca, (Nd.par 5 q1 q2 :: r), by go_num, by go_num, hlt6, HR2, (by have h1 := HL.out; have h2 := HM1.out; have h3 := HM2.out; show _ = _; simp at h1 ⊢; omega), Sta.drop 1 0 HS57⟩
              case measure => simp [intOf]; omega
            · as_aux_lemma =>
              rewrite [if_pos (wanted_free rfl)]
              with_reducible refine wp_ldPt (.tmp 50) (by with_unfolding_all rfl) g (m2 * 2) (textN q2) (opN q2) (by with_unfolding_all rfl) ((Sta.t (i := 0) HS52 rfl :).2.2.2.1) ((Sta.t (i := 0) HS52 rfl :).2.2.2.2) ?_
              refine hK.out _ _ (Sta.c (i := 0) HS52 rfl rfl) (fun hHeld => ?_)
              clear hK K
              try simp only [Act.put, List.setIfInBounds_toArray, List.set_cons_zero, List.set_cons_succ]
              refine wpAnyH_ready (rs := [10]) (by kernel_rfl) (by simp) (AllReadyH.cons (o := ⟨_, _, _, _, _, _⟩) rfl (fun K hK => ?_) AllReadyH.nil)
              rewrite [if_pos (wanted_free rfl)]
              go_simp
              (with_reducible refine (hC6 w52 q1 r P1 HP1.out HW1.out).mono ?_)
              rintro r w58 ⟨rfl, hB58⟩
              have HS58 := Sta.call HS52 hB58
              clear hB58
              go_wp2_with fail
              refine hK.out _ _ (Sta.c (i := 0) HS58 rfl rfl) (fun hHeld => ?_)
              clear hK K
              try simp only [Act.put, List.setIfInBounds_toArray, List.set_cons_zero, List.set_cons_succ]
              refine wpAnyH_take (i := 12) (oi := ⟨_, _, _, _, _, _⟩) (v := .string Y1) rfl (by kernel_rfl) (by kernel_rfl) (by kernel_rfl) (fun _ _ _ h => h) (Or.inl ⟨wanted_free rfl, fun w' hSw => ?_⟩) hHeld ?_
              · go_simp
              try simp only [Act.put, List.setIfInBounds_toArray, List.set_cons_zero, List.set_cons_succ]
              refine wpAnyH_ready (rs := [20]) (by kernel_rfl) (by simp) (AllReadyH.cons (o := ⟨_, _, _, _, _, _⟩) rfl (fun K hK => ?_) AllReadyH.nil)
              rewrite [if_pos (wanted_free rfl)]
              go_simp
              (with_reducible refine (hC7 w58 r q2 P2 HP2.out HW2.out).mono ?_)
              rintro r w59 ⟨rfl, hB59⟩
              have HS59 := Sta.call HS58 hB59
              clear hB59
              go_wp2_with fail
              refine hK.out _ _ (Sta.c (i := 0) HS59 rfl rfl) (fun hHeld => ?_)
              clear hK K
              try simp only [Act.put, List.setIfInBounds_toArray, List.set_cons_zero, List.set_cons_succ]
              refine wpAnyH_take (i := 21) (oi := ⟨_, _, _, _, _, _⟩) (v := .string Y2) rfl (by kernel_rfl) (by kernel_rfl) (by kernel_rfl) (fun _ _ _ h => h) (Or.inl ⟨wanted_free rfl, fun w' hSw => ?_⟩) hHeld ?_
              · go_simp
              try simp only [Act.put, List.setIfInBounds_toArray, List.set_cons_zero, List.set_cons_succ]
              refine wpAnyH_take (i := 24) (oi := ⟨_, _, _, _, _, _⟩) (v := .agg #[.string Y2, .int .i64 5]) rfl (by kernel_rfl) (by kernel_rfl) (by kernel_rfl) (fun _ _ _ h => h) (Or.inl ⟨wanted_free rfl, fun w' hSw => ?_⟩) hHeld ?_
              · go_simp
              try simp only [Act.put, List.setIfInBounds_toArray, List.set_cons_zero, List.set_cons_succ]
              refine wpAnyH_take (i := 25) (oi := ⟨_, _, _, _, _, _⟩) (v := .pointer (some ⟨g, m1 * 2, none⟩)) rfl (by kernel_rfl) (by kernel_rfl) (by kernel_rfl) (fun _ _ _ h => h) (Or.inl ⟨wanted_free rfl, fun w' hSw => ?_⟩) hHeld ?_
              · go_simp
              try simp only [Act.put, List.setIfInBounds_toArray, List.set_cons_zero, List.set_cons_succ]
              refine wpAnyH_ready (rs := [26]) (by kernel_rfl) (by simp) (AllReadyH.cons (o := ⟨_, _, _, _, _, _⟩) rfl (fun K hK => ?_) AllReadyH.nil)
              rewrite [if_pos (wanted_free rfl)]
              have HS60a := Sta.imp 0 (fun w' => PtO w' w.heap.size (.slice (some ⟨g, 0, none⟩) mm ca) ((r.map partN).reverse ++ [⟨textN q1, opN q1⟩, ⟨textN q2, opN q2⟩])) HS59 rfl (fun w' h => h.1)
              with_reducible refine wp_setPt (w := w59) (.tmp 59) (.tmp 58) (by with_unfolding_all rfl) w.heap.size g mm ca m1 ((r.map partN).reverse ++ [⟨textN q1, opN q1⟩, ⟨textN q2, opN q2⟩]) ((r.map partN).reverse ++ [⟨Y2, 5⟩, ⟨textN q2, opN q2⟩]) Y2 5 (by with_unfolding_all rfl) (by with_unfolding_all rfl) (Sta.t (i := 0) HS60a rfl) (by have := HL1.out; simp; simp at this; omega) (pset_pen HL1.out) ?_
              intro w60 hO60 hG60
              have HS60 := Sta.app 0 HS60a rfl (Nat.le_refl _) hO60 hG60 (Or.inl rfl)
              clear hO60 hG60 HS60a
              refine hK.out _ _ (Sta.c (i := 0) HS60 rfl rfl) (fun hHeld => ?_)
              clear hK K
              try simp only [Act.put]
              refine wpAnyH_done (by kernel_rfl) ?_ _
              clear hHeld
              go_wp2_with fail
              have HS61 := Sta.imp 1 (fun w' => InsAt w' (some ⟨b, o, none⟩) l) HS60 rfl (fun w' h => h.1)
              have HS62 := Sta.imp 0 (fun w' => PtO w' w.heap.size (.slice (some ⟨g, 0, none⟩) m2 ca) (((Nd.par 5 q1 q2 :: r).map partN).reverse)) HS61 rfl (fun w' h => ppar_next (partN_par HY.out) (by have := HL1.out; have := HM2.out; omega) HL1.out h)
              go_roundw
              case rel => exact ⟨k + 1, (some ⟨g, 0, none⟩), m2, ca, (Nd.par 5 q1 q2 :: r), by go_num, by go_num, hlt6, HR2, (by have h1 := HL.out; have h2 := HM1.out; have h3 := HM2.out; show _ = _; simp at h1 ⊢; omega), Sta.drop 1 0 HS62⟩
              case measure => simp [intOf]; omega
          · as_aux_lemma =>
            rewrite [if_pos (wanted_free rfl)]
            with_reducible refine wp_ldPt (.tmp 50) (by with_unfolding_all rfl) g (m2 * 2) (textN q2) (opN q2) (by with_unfolding_all rfl) ((Sta.t (i := 0) HS52 rfl :).2.2.2.1) ((Sta.t (i := 0) HS52 rfl :).2.2.2.2) ?_
            refine hK.out _ _ (Sta.c (i := 0) HS52 rfl rfl) (fun hHeld => ?_)
            clear hK K
            try simp only [Act.put, List.setIfInBounds_toArray, List.set_cons_zero, List.set_cons_succ]
            refine wpAnyH_ready (rs := [7]) (by kernel_rfl) (by simp) (AllReadyH.cons (o := ⟨_, _, _, _, _, _⟩) rfl (fun K hK => ?_) AllReadyH.nil)
            rewrite [if_pos (wanted_free rfl)]
            with_reducible refine wp_ldPt (.tmp 40) (by with_unfolding_all rfl) g (m1 * 2) (textN q1) (opN q1) (by with_unfolding_all rfl) ((Sta.t (i := 0) HS52 rfl :).2.1) ((Sta.t (i := 0) HS52 rfl :).2.2.1) ?_
            refine hK.out _ _ (Sta.c (i := 0) HS52 rfl rfl) (fun hHeld => ?_)
            clear hK K
            try simp only [Act.put, List.setIfInBounds_toArray, List.set_cons_zero, List.set_cons_succ]
            refine wpAnyH_ready (rs := [10]) (by kernel_rfl) (by simp) (AllReadyH.cons (o := ⟨_, _, _, _, _, _⟩) rfl (fun K hK => ?_) AllReadyH.nil)
            rewrite [if_pos (wanted_free rfl)]
            go_simp
            (with_reducible refine (hC6 w52 q1 r P1 HP1.out HW1.out).mono ?_)
            rintro r w63 ⟨rfl, hB63⟩
            have HS63 := Sta.call HS52 hB63
            clear hB63
            go_wp2_with fail
            refine hK.out _ _ (Sta.c (i := 0) HS63 rfl rfl) (fun hHeld => ?_)
            clear hK K
            try simp only [Act.put, List.setIfInBounds_toArray, List.set_cons_zero, List.set_cons_succ]
            refine wpAnyH_take (i := 12) (oi := ⟨_, _, _, _, _, _⟩) (v := .string Y1) rfl (by kernel_rfl) (by kernel_rfl) (by kernel_rfl) (fun _ _ _ h => h) (Or.inl ⟨wanted_free rfl, fun w' hSw => ?_⟩) hHeld ?_
            · go_simp
            try simp only [Act.put, List.setIfInBounds_toArray, List.set_cons_zero, List.set_cons_succ]
            refine wpAnyH_ready (rs := [20]) (by kernel_rfl) (by simp) (AllReadyH.cons (o := ⟨_, _, _, _, _, _⟩) rfl (fun K hK => ?_) AllReadyH.nil)
            rewrite [if_pos (wanted_free rfl)]
            go_simp
            (with_reducible refine (hC7 w63 r q2 P2 HP2.out HW2.out).mono ?_)
            rintro r w64 ⟨rfl, hB64⟩
            have HS64 := Sta.call HS63 hB64
            clear hB64
            go_wp2_with fail
            refine hK.out _ _ (Sta.c (i := 0) HS64 rfl rfl) (fun hHeld => ?_)
            clear hK K
            try simp only [Act.put, List.setIfInBounds_toArray, List.set_cons_zero, List.set_cons_succ]
            refine wpAnyH_take (i := 21) (oi := ⟨_, _, _, _, _, _⟩) (v := .string Y2) rfl (by kernel_rfl) (by kernel_rfl) (by kernel_rfl) (fun _ _ _ h => h) (Or.inl ⟨wanted_free rfl, fun w' hSw => ?_⟩) hHeld ?_
            · go_simp
            try simp only [Act.put, List.setIfInBounds_toArray, List.set_cons_zero, List.set_cons_succ]
            refine wpAnyH_take (i := 24) (oi := ⟨_, _, _, _, _, _⟩) (v := .agg #[.string Y2, .int .i64 5]) rfl (by kernel_rfl) (by kernel_rfl) (by kernel_rfl) (fun _ _ _ h => h) (Or.inl ⟨wanted_free rfl, fun w' hSw => ?_⟩) hHeld ?_
            · go_simp
            try simp only [Act.put, List.setIfInBounds_toArray, List.set_cons_zero, List.set_cons_succ]
            refine wpAnyH_take (i := 25) (oi := ⟨_, _, _, _, _, _⟩) (v := .pointer (some ⟨g, m1 * 2, none⟩)) rfl (by kernel_rfl) (by kernel_rfl) (by kernel_rfl) (fun _ _ _ h => h) (Or.inl ⟨wanted_free rfl, fun w' hSw => ?_⟩) hHeld ?_
            · go_simp
            try simp only [Act.put, List.setIfInBounds_toArray, List.set_cons_zero, List.set_cons_succ]
            refine wpAnyH_ready (rs := [26]) (by kernel_rfl) (by simp) (AllReadyH.cons (o := ⟨_, _, _, _, _, _⟩) rfl (fun K hK => ?_) AllReadyH.nil)
            rewrite [if_pos (wanted_free rfl)]
            have HS65a := Sta.imp 0 (fun w' => PtO w' w.heap.size (.slice (some ⟨g, 0, none⟩) mm ca) ((r.map partN).reverse ++ [⟨textN q1, opN q1⟩, ⟨textN q2, opN q2⟩])) HS64 rfl (fun w' h => h.1)
            with_reducible refine wp_setPt (w := w64) (.tmp 59) (.tmp 58) (by with_unfolding_all rfl) w.heap.size g mm ca m1 ((r.map partN).reverse ++ [⟨textN q1, opN q1⟩, ⟨textN q2, opN q2⟩]) ((r.map partN).reverse ++ [⟨Y2, 5⟩, ⟨textN q2, opN q2⟩]) Y2 5 (by with_unfolding_all rfl) (by with_unfolding_all rfl) (Sta.t (i := 0) HS65a rfl) (by have := HL1.out; simp; simp at this; omega) (pset_pen HL1.out) ?_
            intro w65 hO65 hG65
            have HS65 := Sta.app 0 HS65a rfl (Nat.le_refl _) hO65 hG65 (Or.inl rfl)
            clear hO65 hG65 HS65a
            refine hK.out _ _ (Sta.c (i := 0) HS65 rfl rfl) (fun hHeld => ?_)
            clear hK K
            try simp only [Act.put]
            refine wpAnyH_done (by kernel_rfl) ?_ _
            clear hHeld
            go_wp2_with fail
            have HS66 := Sta.imp 1 (fun w' => InsAt w' (some ⟨b, o, none⟩) l) HS65 rfl (fun w' h => h.1)
            have HS67 := Sta.imp 0 (fun w' => PtO w' w.heap.size (.slice (some ⟨g, 0, none⟩) m2 ca) (((Nd.par 5 q1 q2 :: r).map partN).reverse)) HS66 rfl (fun w' h => ppar_next (partN_par HY.out) (by have := HL1.out; have := HM2.out; omega) HL1.out h)
            go_roundw
            case rel => exact ⟨k + 1, (some ⟨g, 0, none⟩), m2, ca, (Nd.par 5 q1 q2 :: r), by go_num, by go_num, hlt6, HR2, (by have h1 := HL.out; have h2 := HM1.out; have h3 := HM2.out; show _ = _; simp at h1 ⊢; omega), Sta.drop 1 0 HS67⟩
            case measure => simp [intOf]; omega
end Go.Proofs.Ytaalegjhhpfhbaa
