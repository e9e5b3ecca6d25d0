/- PolicyEval of the specification. -/
import Derived.Test.YtaalegjhhpfhbaaNdF
import Derived.Test.YtaalegjhhpfhbaaNdS
import Derived.Test.YtaalegjhhpfhbaaBoO
namespace Go.Proofs.Ytaalegjhhpfhbaa
open Go.RowKit
set_option linter.unusedVariables false

theorem step_right {st : List Nd} {op : Int} {k v : ByteArray} (h : stepN st op k v ≠ none) :
    (op = 1 ∧ stepN st op k v = some (.is k v :: st)) ∨ (op = 2 ∧ stepN st op k v = some (.has k :: st)) ∨ (op = 3 ∧ ∃ n r, st = n :: r ∧ stepN st op k v = some (.neg n :: r)) ∨
    (op = 4 ∧ ∃ a b r, st = b :: a :: r ∧ stepN st op k v = some (.par 4 a b :: r)) ∨ (op = 5 ∧ ∃ a b r, st = b :: a :: r ∧ stepN st op k v = some (.par 5 a b :: r)) := by
  rcases step_cases st op k v with ⟨_, e⟩ | ⟨_, y, ⟨h1, rfl⟩ | ⟨h1, rfl⟩, e⟩ | ⟨_, _, _, e⟩ | ⟨_, h1, hx⟩ | ⟨_, _, _, e⟩ | ⟨_, h1 | h1, hx⟩
  · exact absurd e h
  · exact Or.inl ⟨h1, e⟩
  · exact Or.inr (Or.inl ⟨h1, e⟩)
  · exact absurd e h
  · exact Or.inr (Or.inr (Or.inl ⟨h1, hx⟩))
  · exact absurd e h
  · subst h1; exact Or.inr (Or.inr (Or.inr (Or.inl ⟨rfl, hx⟩)))
  · subst h1; exact Or.inr (Or.inr (Or.inr (Or.inr ⟨rfl, hx⟩)))
theorem step_right2 (ls : List LabV) {st : List Nd} {op : Int} {k v : ByteArray} (h : stepN st op k v ≠ none) :
    (op = 1 ∧ stepN st op k v = some (.is k v :: st)) ∨ (op = 2 ∧ stepN st op k v = some (.has k :: st)) ∨ (op = 3 ∧ ∃ n r, st = n :: r ∧ stepN st op k v = some (.neg n :: r)) ∨
    (op = 4 ∧ ∃ a b r, holdN ls a = false ∧ st = b :: a :: r ∧ stepN st op k v = some (.par 4 a b :: r)) ∨ (op = 4 ∧ ∃ a b r, holdN ls a = true ∧ st = b :: a :: r ∧ stepN st op k v = some (.par 4 a b :: r)) ∨
    (op = 5 ∧ ∃ a b r, holdN ls a = false ∧ st = b :: a :: r ∧ stepN st op k v = some (.par 5 a b :: r)) ∨ (op = 5 ∧ ∃ a b r, holdN ls a = true ∧ st = b :: a :: r ∧ stepN st op k v = some (.par 5 a b :: r)) := by
  rcases step_right h with h | h | h | ⟨h, a, b, r, h1, h2⟩ | ⟨h, a, b, r, h1, h2⟩
  · exact Or.inl h
  · exact Or.inr (Or.inl h)
  · exact Or.inr (Or.inr (Or.inl h))
  · cases hb : holdN ls a
    · exact Or.inr (Or.inr (Or.inr (Or.inl ⟨h, a, b, r, hb, h1, h2⟩)))
    · exact Or.inr (Or.inr (Or.inr (Or.inr (Or.inl ⟨h, a, b, r, hb, h1, h2⟩))))
  · cases hb : holdN ls a
    · exact Or.inr (Or.inr (Or.inr (Or.inr (Or.inr (Or.inl ⟨h, a, b, r, hb, h1, h2⟩)))))
    · exact Or.inr (Or.inr (Or.inr (Or.inr (Or.inr (Or.inr ⟨h, a, b, r, hb, h1, h2⟩)))))
theorem not_cells {w : World} {base g n c p : Nat} {ls : List LabV} {q1 : Nd} {r : List Nd} (h : BoO w base (.slice (some ⟨g, 0, none⟩) n c) (((q1 :: r).map (holdN ls)).reverse)) (hp : (r.map (holdN ls)).reverse.length = p) :
    BoO w base (.slice (some ⟨g, 0, none⟩) n c) ((r.map (holdN ls)).reverse ++ [holdN ls q1]) ∧ w.cell? ⟨g, p, none⟩ = some (.bool (holdN ls q1)) := by
  rw [List.map_cons, List.reverse_cons] at h
  subst hp
  refine ⟨h, ?_⟩
  rw [BoO.cell h _ (by simp), List.getElem_append_right (Nat.le_refl _)]
  simp
theorem par_cells {w : World} {base g n c p p2 : Nat} {ls : List LabV} {q1 q2 : Nd} {r : List Nd} {b : Bool} (h : BoO w base (.slice (some ⟨g, 0, none⟩) n c) (((q2 :: q1 :: r).map (holdN ls)).reverse)) (hp : (r.map (holdN ls)).reverse.length = p) (hb : holdN ls q1 = b) (hp2 : p2 = p + 1) :
    BoO w base (.slice (some ⟨g, 0, none⟩) n c) ((r.map (holdN ls)).reverse ++ [b, holdN ls q2]) ∧ w.cell? ⟨g, p, none⟩ = some (.bool b) ∧ w.cell? ⟨g, p2, none⟩ = some (.bool (holdN ls q2)) := by
  have e : ((q2 :: q1 :: r).map (holdN ls)).reverse = (r.map (holdN ls)).reverse ++ [b, holdN ls q2] := by rw [List.map_cons, List.map_cons, List.reverse_cons, List.reverse_cons, List.append_assoc, hb]; rfl
  rw [e] at h
  subst hp hp2
  refine ⟨h, ?_, ?_⟩
  · rw [BoO.cell h _ (by simp), List.getElem_append_right (Nat.le_refl _)]
    simp
  · rw [BoO.cell h ((r.map (holdN ls)).reverse.length + 1) (by simp), List.getElem_append_right (by omega)]
    simp
theorem set_last {l : List Bool} {p : Nat} {x y : Bool} (h : l.length = p) : l ++ [y] = (l ++ [x]).set p y := by
  subst h
  rw [List.set_append_right _ _ (Nat.le_refl _)]
  simp
theorem set_pen {l : List Bool} {p : Nat} {x y z : Bool} (h : l.length = p) : l ++ [y, z] = (l ++ [x, z]).set p y := by
  subst h
  rw [List.set_append_right _ _ (Nat.le_refl _)]
  simp
theorem par_next {w : World} {base g n c p p2 : Nat} {ls : List LabV} {q1 q2 : Nd} {r : List Nd} {b : Bool} {op : Int} (hb : holdN ls (.par op q1 q2) = b) (hp2 : p2 = p + 1) (hp : (r.map (holdN ls)).reverse.length = p) (h : BoO w base (.slice (some ⟨g, 0, none⟩) n c) ((r.map (holdN ls)).reverse ++ [b, holdN ls q2])) :
    BoO w base (.slice (some ⟨g, 0, none⟩) p2 c) (((Nd.par op q1 q2 :: r).map (holdN ls)).reverse) := by
  have e : (((Nd.par op q1 q2 :: r).map (holdN ls)).reverse) = (r.map (holdN ls)).reverse ++ [b] := by rw [List.map_cons, List.reverse_cons, hb]
  rw [e]
  refine BoO.cut (r := [holdN ls q2]) p2 (by rw [List.append_assoc]; exact h) (by rw [List.length_append, hp, hp2]; rfl)
set_option maxRecDepth 100000 in
set_option maxHeartbeats 4000000 in
theorem specIs (d : Option Addr) (e m : Nat) (ls : List LabV) (t u : ByteArray) (any : Bool) (w : World) (hn : ls.length = m) (h : LabAt w d ls) (hm : m ≤ maxLen) :
    Calls Try.prog 53 #[.slice d m e, .string t, .string u, .bool any] w fun r w' => r = .returned (.bool (isB ls t u any)) ∧ Below w.heap.size w w' := by
  unfold maxLen at hm
  have HN := hidP hn
  have HS0 : Hid (Sta [] w [] [⟨fun k => k < w.heap.size, fun w' => LabAt w' d ls⟩] w) := Sta.arg (fun w' => LabAt w' d ls) (fun w' hb => h.below hb)
  clear hn h
  go_enter Try.func53, Try.ntmps53
  go_wp2_with fail
  go_loopw [9] (fun v0 wr => ∃ (k : Nat), v0 = .int .i64 (k : Int) ∧ k ≤ m ∧ Hid (∀ i (hi : i < ls.length), i < k → ¬ (ls[i].ky = t ∧ (any = true ∨ ls[i].vl = u))) ∧ Hid (Sta [] w [] [⟨fun k => k < w.heap.size, fun w' => LabAt w' d ls⟩] wr)) (fun v0 _ => m - (intOf v0).toNat)
  case atStart => exact ⟨0, rfl, Nat.zero_le _, fun i hi hj => absurd hj (Nat.not_lt_zero _), HS0⟩
  case round =>
    rename Go.World => wl1
    clear HS0
    obtain ⟨k, rfl, hk1, HT, HS1⟩ := hrel
    by_cases hlt1 : k < m
    case neg =>
      obtain rfl : m = k := by omega
      have HF := hidP (isB_all HT.out HN.out)
      go_wp2_with fail
      go_ret
      exact ⟨by rw [HF.out]; rfl, Sta.fin HS1⟩
    have lk1 : (k : Int) < m := by omega
    have l01 : (0 : Int) ≤ k := by omega
    have hkl : k < ls.length := by have := HN.out; omega
    obtain ⟨b, o, rfl, hz2⟩ := (Sta.t (i := 0) HS1 rfl :) k hkl
    clear hz2
    obtain ⟨y0, hy0⟩ : ∃ y, ls[k].ky = y := ⟨_, rfl⟩
    obtain ⟨y1, hy1⟩ : ∃ y, ls[k].vl = y := ⟨_, rfl⟩
    have HS3 := Sta.imp 0 (fun w' => (LabAt w' (some ⟨b, o, none⟩) ls) ∧ w'.cell? ⟨b, o + k * 2, none⟩ = some (.string y0) ∧ w'.cell? ⟨b, o + k * 2 + 1, none⟩ = some (.string y1)) HS1 rfl (fun w' h => ⟨h, by rw [← hy0]; exact (LabAt.here h k hkl).1, by rw [← hy1]; exact (LabAt.here h k hkl).2⟩)
    have hb4 : (¬ y0 = t) ∨ (y0 = t ∧ any = true) ∨ (y0 = t ∧ any = false ∧ ¬ y1 = u) ∨ (y0 = t ∧ any = false ∧ y1 = u) := by by_cases e : y0 = t <;> by_cases e2 : y1 = u <;> cases any <;> simp [e, e2]
    rcases hb4 with g | ⟨g, ga⟩ | ⟨g, ga, g2⟩ | ⟨g, ga, g2⟩
    · as_aux_lemma =>
      have HT2 := hidP (isB_step HT.out hkl hy0 hy1 (fun q => g q.1))
      have q1 := txt_ne g
      clear g
      have tcHS3_0_0 : wl1.cell? ⟨b, o + k * 2, none⟩ = some (.string y0) := (Sta.t (i := 0) HS3 rfl :).2.1
      go_wp2_with fail
      clear tcHS3_0_0
      have HS4 := Sta.imp 0 (fun w' => LabAt w' (some ⟨b, o, none⟩) ls) HS3 rfl (fun w' h => h.1)
      go_roundw
      case rel => exact ⟨k + 1, by go_num, hlt1, HT2, HS4⟩
      case measure => simp [intOf]; omega
    · as_aux_lemma =>
      subst ga
      have HF := hidP (isB_hit (v := u) (any := true) hkl hy0 hy1 g (Or.inl rfl))
      have q1 : (y0.toList == t.toList) = true := by rw [g]; exact txt_eq t
      clear g
      have tcHS3_0_0 : wl1.cell? ⟨b, o + k * 2, none⟩ = some (.string y0) := (Sta.t (i := 0) HS3 rfl :).2.1
      go_wp2_with fail
      go_ret
      exact ⟨by rw [HF.out]; rfl, Sta.fin HS3⟩
    · as_aux_lemma =>
      have HT2 := hidP (isB_step HT.out hkl hy0 hy1 (fun q => q.2.elim (fun q2 => by rw [ga] at q2; cases q2) g2))
      subst ga
      have q1 : (y0.toList == t.toList) = true := by rw [g]; exact txt_eq t
      have q2 := txt_ne g2
      clear g g2
      have tcHS3_0_0 : wl1.cell? ⟨b, o + k * 2, none⟩ = some (.string y0) := (Sta.t (i := 0) HS3 rfl :).2.1
      have tcHS3_0_1 : wl1.cell? ⟨b, o + k * 2 + 1, none⟩ = some (.string y1) := (Sta.t (i := 0) HS3 rfl :).2.2
      go_wp2_with fail
      clear tcHS3_0_0 tcHS3_0_1
      have HS5 := Sta.imp 0 (fun w' => LabAt w' (some ⟨b, o, none⟩) ls) HS3 rfl (fun w' h => h.1)
      go_roundw
      case rel => exact ⟨k + 1, by go_num, hlt1, HT2, HS5⟩
      case measure => simp [intOf]; omega
    · as_aux_lemma =>
      subst ga
      have HF := hidP (isB_hit (any := false) hkl hy0 hy1 g (Or.inr g2))
      have q1 : (y0.toList == t.toList) = true := by rw [g]; exact txt_eq t
      have q2 : (y1.toList == u.toList) = true := by rw [g2]; exact txt_eq u
      clear g g2
      have tcHS3_0_0 : wl1.cell? ⟨b, o + k * 2, none⟩ = some (.string y0) := (Sta.t (i := 0) HS3 rfl :).2.1
      have tcHS3_0_1 : wl1.cell? ⟨b, o + k * 2 + 1, none⟩ = some (.string y1) := (Sta.t (i := 0) HS3 rfl :).2.2
      go_wp2_with fail
      go_ret
      exact ⟨by rw [HF.out]; rfl, Sta.fin HS3⟩
set_option maxRecDepth 100000 in
set_option maxHeartbeats 32000000 in
theorem specPolE (a : Option Addr) (c n : Nat) (l : List InsV) (d : Option Addr) (e m : Nat) (ls : List LabV) (w : World) (hn : l.length = n) (h : InsAt w a l) (hm : n ≤ maxLen) (hw : ∀ x ∈ l, x.w) (hn2 : ls.length = m) (h2 : LabAt w d ls) (hm2 : m ≤ maxLen) :
    Calls Try.prog 17 #[.slice a n c, .slice d m e] w fun r w' => r = .returned (.bool (evalN l ls)) ∧ Below w.heap.size w w' := by
  have hm0 := hm
  unfold maxLen at hm0
  have hm20 := hm2
  unfold maxLen at hm20
  have HN := hidP hn
  have HW := hidP hw
  have hC1 : ∀ w0, (InsAt w0 a l) → (nodeN l = none) → Calls Try.prog 12 #[.slice a n c] w0 fun r w' => r = .returned (.bool false) ∧ Below w0.heap.size w0 w' := fun w0 n0 n1 => by have hh := specPolR a c n l w0 hn n0 hm hw; rw [n1] at hh; exact hh
  have hC2 : ∀ w0 (y : Nd), (InsAt w0 a l) → (nodeN l = some y) → Calls Try.prog 12 #[.slice a n c] w0 fun r w' => r = .returned (.bool true) ∧ Below w0.heap.size w0 w' := fun w0 y n0 n1 => by have hh := specPolR a c n l w0 hn n0 hm hw; rw [n1] at hh; exact hh
  have hC3 : ∀ w0 (x1 : ByteArray) (x2 : ByteArray), (LabAt w0 d ls) → Calls Try.prog 53 #[.slice d m e, .string x1, .string x2, .bool false] w0 fun r w' => r = .returned (.bool (isB ls x1 x2 false)) ∧ Below w0.heap.size w0 w' := fun w0 x1 x2 n0 => specIs d e m ls x1 x2 false w0 hn2 n0 hm2
  have hC4 : ∀ w0 (x1 : ByteArray), (LabAt w0 d ls) → Calls Try.prog 53 #[.slice d m e, .string x1, .string ⟨#[]⟩, .bool true] w0 fun r w' => r = .returned (.bool (isB ls x1 (⟨#[]⟩) true)) ∧ Below w0.heap.size w0 w' := fun w0 x1 n0 => specIs d e m ls x1 (⟨#[]⟩) true w0 hn2 n0 hm2
  have HS0 : Hid (Sta [] w [] [⟨fun k => k < w.heap.size, fun w' => InsAt w' a l ∧ LabAt w' d ls⟩] w) := Sta.arg (fun w' => InsAt w' a l ∧ LabAt w' d ls) (fun w' hb => ⟨h.below hb, h2.below hb⟩)
  clear h h2
  go_enter Try.func17, Try.ntmps17
  have hc4 : (400 < n) ∨ (¬ 400 < n ∧ 400 < m) ∨ (¬ 400 < n ∧ ¬ 400 < m ∧ nodeN l = none) ∨ (¬ 400 < n ∧ ¬ 400 < m ∧ ∃ y, nodeN l = some y) := by
    rcases hx : nodeN l with _ | y <;> simp <;> omega
  rcases hc4 with g | ⟨g, g2⟩ | ⟨g, g2, hf⟩ | ⟨g, g2, y, hf⟩
  · as_aux_lemma =>
    have HE := hidP (eval_none ls (node_long HN.out (by omega)))
    have d_n : decide ((400 : Int) < (n : Int)) = true := decide_eq_true (by omega)
    go_wp2_with fail
    go_ret
    exact ⟨by rw [HE.out]; rfl, Sta.fin HS0⟩
  · as_aux_lemma =>
    have HE : Hid (evalN l ls = false) := by
      rcases hx : nodeN l with _ | y
      · exact eval_none ls hx
      · exact eval_big hx (by omega)
    have d_n : decide ((400 : Int) < (n : Int)) = false := decide_eq_false (by omega)
    have d_m : decide ((400 : Int) < (m : Int)) = true := decide_eq_true (by omega)
    go_wp2_with fail
    go_ret
    exact ⟨by rw [HE.out]; rfl, Sta.fin HS0⟩
  · as_aux_lemma =>
    have HF := hidP hf
    have HE := hidP (eval_none ls hf)
    clear hf
    have d_n : decide ((400 : Int) < (n : Int)) = false := decide_eq_false (by omega)
    have d_m : decide ((400 : Int) < (m : Int)) = false := decide_eq_false (by omega)
    go_wp2_with (first
      | (go_at_call 12; have n1_0 : InsAt w a l := (Sta.t (i := 0) HS0 rfl :).1; (with_reducible refine (hC1 w n1_0 HF.out).mono ?_); rintro r w1 ⟨rfl, hB1⟩; have HS1 := Sta.call HS0 hB1; clear hB1))
    go_ret
    exact ⟨by rw [HE.out]; rfl, Sta.fin HS1⟩
  · as_aux_lemma =>
    have HF := hidP hf
    have HE := hidP (eval_ok (ls := ls) hf (by omega))
    clear hf
    have d_n : decide ((400 : Int) < (n : Int)) = false := decide_eq_false (by omega)
    have d_m : decide ((400 : Int) < (m : Int)) = false := decide_eq_false (by omega)
    go_wp2_with (first
      | (go_at_call 12; have n2_0 : InsAt w a l := (Sta.t (i := 0) HS0 rfl :).1; (with_reducible refine (hC2 w y n2_0 HF.out).mono ?_); rintro r w2 ⟨rfl, hB2⟩; have HS2 := Sta.call HS0 hB2; clear hB2))
    · skip
      have HS4 : Hid (Sta [] w [] [⟨fun k => (Value.slice none 0 0).ownBlock = some k, fun w' => BoO w' w.heap.size (.slice none 0 0) ([])⟩, ⟨fun k => k < w.heap.size, fun w' => InsAt w' a l ∧ LabAt w' d ls⟩] w2) := Sta.own0 w.heap.size 4 1 HS2
      go_wp2_with fail
      have hO5 := World.ownsRow_made (base := w.heap.size) (size := 1) (e := 4) w2 #[] 0 (Sta.size HS4) (by decide) (by simp)
      have hG5 := World.grownBy_alloc w2 (.cells #[] 4) (Value.slice none 0 0).ownBlock
      generalize w2.alloc (.cells #[] 4) = w5 at *
      have HS5 := Sta.app 0 HS4 rfl (Nat.le_refl _) hO5 hG5 (Or.inr rfl)
      clear hO5 hG5
      go_loopw [6, 5] (fun v0 v1 wr => ∃ (k : Nat) (aa : Option Addr) (mm : Nat) (ca : Nat) (st : List Nd), v0 = .int .i64 (k : Int) ∧ v1 = .slice aa mm ca ∧ k ≤ n ∧ Hid (runN (l.take k) = some st) ∧ Hid (st.length = mm) ∧ Hid (Sta [] w [] [⟨fun k => (Value.slice aa mm ca).ownBlock = some k, fun w' => BoO w' w.heap.size (.slice aa mm ca) ((st.map (holdN ls)).reverse)⟩, ⟨fun k => k < w.heap.size, fun w' => InsAt w' a l ∧ LabAt w' d ls⟩] wr)) (fun v0 v1 _ => n - (intOf v0).toNat)
      case atStart => exact ⟨0, (some ⟨w2.heap.size, 0, none⟩), 0, 0, [], rfl, rfl, Nat.zero_le _, rfl, rfl, HS5⟩
      case round =>
        rename Go.World => wl6
        clear HS5
        obtain ⟨k, aa, mm, ca, st, rfl, rfl, hk6, HR, HL, HS6⟩ := hrel
        by_cases hlt6 : k < n
        case neg =>
          obtain rfl : n = k := by omega
          obtain rfl : st = [y] := by have h1 := HR.out; rw [List.take_of_length_le (Nat.le_of_eq HN.out), (node_some HF.out).2.2] at h1; injection h1 with h1; exact h1.symm
          obtain rfl : mm = 1 := HL.out.symm
          obtain ⟨g, rfl⟩ : ∃ g, aa = some ⟨g, 0, none⟩ := by
            rcases BoO.forms (Sta.t (i := 0) HS6 rfl : BoO _ _ (.slice aa 1 ca) _) with ⟨_, h0⟩ | ⟨g, c', n', _, h1, h2⟩
            · exact absurd h0 (by simp)
            · injection h1 with e1 e2 e3; subst e1; exact ⟨g, rfl⟩
          · skip
            have HS7 := Sta.imp 0 (fun w' => BoO w' w.heap.size (.slice (some ⟨g, 0, none⟩) 1 ca) [holdN ls y] ∧ w'.cell? ⟨g, 0, none⟩ = some (.bool (holdN ls y))) HS6 rfl (fun w' h => ⟨h, BoO.cell h 0 (by simp)⟩)
            have tcHS7_0_0 : wl6.cell? ⟨g, 0, none⟩ = some (.bool (holdN ls y)) := (Sta.t (i := 0) HS7 rfl :).2
            go_wp2_with fail
            go_ret
            exact ⟨by rw [HE.out]; rfl, Sta.fin HS7⟩
        have lk6 : (k : Int) < n := by omega
        have l06 : (0 : Int) ≤ k := by omega
        have hkl : k < l.length := by have := HN.out; omega
        obtain ⟨b, o, rfl, hz8⟩ := (Sta.t (i := 1) HS6 rfl :).1 k hkl
        clear hz8
        obtain ⟨x0, hx0⟩ : ∃ y, l[k].op = y := ⟨_, rfl⟩
        obtain ⟨x1, hx1⟩ : ∃ y, l[k].key = y := ⟨_, rfl⟩
        obtain ⟨x2, hx2⟩ : ∃ y, l[k].val = y := ⟨_, rfl⟩
        have HS9 := Sta.imp 1 (fun w' => (InsAt w' (some ⟨b, o, none⟩) l ∧ LabAt w' d ls) ∧ w'.cell? ⟨b, o + k * 3, none⟩ = some (.int .i64 x0) ∧ w'.cell? ⟨b, o + k * 3 + 1, none⟩ = some (.string x1) ∧ w'.cell? ⟨b, o + k * 3 + 2, none⟩ = some (.string x2)) HS6 rfl (fun w' h => ⟨h, by rw [← hx0]; exact (InsAt.here h.1 k hkl).1, by rw [← hx1]; exact (InsAt.here h.1 k hkl).2.1, by rw [← hx2]; exact (InsAt.here h.1 k hkl).2.2⟩)
        have HM6 : Hid (mm ≤ 60) := by have h1 := (run_w (Nat.le_of_lt hkl) HR.out).2; have h2 := len_sum st; have h3 := HL.out; have h4 := (node_some HF.out).2.1; show _ ≤ _; omega
        have hsr := step_right2 ls (step_some HF.out hkl hx0 hx1 hx2 HR.out)
        rcases hsr with ⟨h, hs⟩ | ⟨h, hs⟩ | ⟨h, q1, r, hst, hs⟩ | ⟨h, q1, q2, r, hb1, hst, hs⟩ | ⟨h, q1, q2, r, hb1, hst, hs⟩ | ⟨h, q1, q2, r, hb1, hst, hs⟩ | ⟨h, q1, q2, r, hb1, hst, hs⟩
        · as_aux_lemma =>
          have HR2 := hidP ((runN_snoc hkl hx0 hx1 hx2 HR.out).trans hs)
          subst h
          have tcHS9_1_0 : wl6.cell? ⟨b, o + k * 3, none⟩ = some (.int .i64 1) := (Sta.t (i := 1) HS9 rfl :).2.1
          go_wp2_with fail
          clear tcHS9_1_0
          have HS10 := Sta.drew HS9
          refine wp_region_held_drew (S := fun w' => w'.cell? ⟨b, o + k * 3 + 1, none⟩ = some (.string x1) ∧ w'.cell? ⟨b, o + k * 3 + 2, none⟩ = some (.string x2)) (by kernel_rfl) ⟨(Sta.t (i := 1) HS10 rfl :).2.2.1, (Sta.t (i := 1) HS10 rfl :).2.2.2⟩ (fun hHeld => ?_)
          generalize wl6.drew = w10 at *
          refine wpAnyH_take (i := 0) (oi := ⟨_, _, _, _, _, _⟩) (v := .slice aa mm ca) rfl (by kernel_rfl) (by kernel_rfl) (by kernel_rfl) (fun _ _ _ h => h) (Or.inl ⟨wanted_free rfl, fun w' hSw => ?_⟩) hHeld ?_
          · go_simp
          try simp only [Act.put, List.setIfInBounds_toArray, List.set_cons_zero, List.set_cons_succ]
          refine wpAnyH_take (i := 1) (oi := ⟨_, _, _, _, _, _⟩) (v := .slice d m e) rfl (by kernel_rfl) (by kernel_rfl) (by kernel_rfl) (fun _ _ _ h => h) (Or.inl ⟨wanted_free rfl, fun w' hSw => ?_⟩) hHeld ?_
          · go_simp
          try simp only [Act.put, List.setIfInBounds_toArray, List.set_cons_zero, List.set_cons_succ]
          refine wpAnyH_take (i := 2) (oi := ⟨_, _, _, _, _, _⟩) (v := .slice (some ⟨b, o, none⟩) n c) rfl (by kernel_rfl) (by kernel_rfl) (by kernel_rfl) (fun _ _ _ h => h) (Or.inl ⟨wanted_free rfl, fun w' hSw => ?_⟩) hHeld ?_
          · go_simp
          try simp only [Act.put, List.setIfInBounds_toArray, List.set_cons_zero, List.set_cons_succ]
          refine wpAnyH_take (i := 3) (oi := ⟨_, _, _, _, _, _⟩) (v := .int .i64 (k : Int)) rfl (by kernel_rfl) (by kernel_rfl) (by kernel_rfl) (fun _ _ _ h => h) (Or.inl ⟨wanted_free rfl, fun w' hSw => ?_⟩) hHeld ?_
          · go_simp
          try simp only [Act.put, List.setIfInBounds_toArray, List.set_cons_zero, List.set_cons_succ]
          refine wpAnyH_take (i := 4) (oi := ⟨_, _, _, _, _, _⟩) (v := .pointer (some ⟨b, o + k * 3, none⟩)) rfl (by kernel_rfl) (by kernel_rfl) (by kernel_rfl) (fun _ _ _ h => h) (Or.inl ⟨wanted_free rfl, fun w' hSw => ?_⟩) hHeld ?_
          · go_simp
          try simp only [Act.put, List.setIfInBounds_toArray, List.set_cons_zero, List.set_cons_succ]
          refine wpAnyH_take (i := 5) (oi := ⟨_, _, _, _, _, _⟩) (v := .pointer (some ⟨b, o + k * 3 + 1, none⟩)) rfl (by kernel_rfl) (by kernel_rfl) (by kernel_rfl) (fun _ _ _ h => h) (Or.inl ⟨wanted_free rfl, fun w' hSw => ?_⟩) hHeld ?_
          · go_simp
          try simp only [Act.put, List.setIfInBounds_toArray, List.set_cons_zero, List.set_cons_succ]
          refine wpAnyH_take (i := 6) (oi := ⟨_, _, _, _, _, _⟩) (v := .string x1) rfl (by kernel_rfl) (by kernel_rfl) (by kernel_rfl) (fun _ _ _ h => h) (Or.inl ⟨wanted_free rfl, fun w' hSw => ?_⟩) hHeld ?_
          · obtain ⟨s0, s1⟩ := hSw
            go_simp
          try simp only [Act.put, List.setIfInBounds_toArray, List.set_cons_zero, List.set_cons_succ]
          refine wpAnyH_take (i := 7) (oi := ⟨_, _, _, _, _, _⟩) (v := .slice (some ⟨b, o, none⟩) n c) rfl (by kernel_rfl) (by kernel_rfl) (by kernel_rfl) (fun _ _ _ h => h) (Or.inl ⟨wanted_free rfl, fun w' hSw => ?_⟩) hHeld ?_
          · go_simp
          try simp only [Act.put, List.setIfInBounds_toArray, List.set_cons_zero, List.set_cons_succ]
          refine wpAnyH_take (i := 8) (oi := ⟨_, _, _, _, _, _⟩) (v := .int .i64 (k : Int)) rfl (by kernel_rfl) (by kernel_rfl) (by kernel_rfl) (fun _ _ _ h => h) (Or.inl ⟨wanted_free rfl, fun w' hSw => ?_⟩) hHeld ?_
          · go_simp
          try simp only [Act.put, List.setIfInBounds_toArray, List.set_cons_zero, List.set_cons_succ]
          refine wpAnyH_take (i := 9) (oi := ⟨_, _, _, _, _, _⟩) (v := .pointer (some ⟨b, o + k * 3, none⟩)) rfl (by kernel_rfl) (by kernel_rfl) (by kernel_rfl) (fun _ _ _ h => h) (Or.inl ⟨wanted_free rfl, fun w' hSw => ?_⟩) hHeld ?_
          · go_simp
          try simp only [Act.put, List.setIfInBounds_toArray, List.set_cons_zero, List.set_cons_succ]
          refine wpAnyH_take (i := 10) (oi := ⟨_, _, _, _, _, _⟩) (v := .pointer (some ⟨b, o + k * 3 + 2, none⟩)) rfl (by kernel_rfl) (by kernel_rfl) (by kernel_rfl) (fun _ _ _ h => h) (Or.inl ⟨wanted_free rfl, fun w' hSw => ?_⟩) hHeld ?_
          · go_simp
          try simp only [Act.put, List.setIfInBounds_toArray, List.set_cons_zero, List.set_cons_succ]
          refine wpAnyH_take (i := 11) (oi := ⟨_, _, _, _, _, _⟩) (v := .string x2) rfl (by kernel_rfl) (by kernel_rfl) (by kernel_rfl) (fun _ _ _ h => h) (Or.inl ⟨wanted_free rfl, fun w' hSw => ?_⟩) hHeld ?_
          · obtain ⟨s0, s1⟩ := hSw
            go_simp
          try simp only [Act.put, List.setIfInBounds_toArray, List.set_cons_zero, List.set_cons_succ]
          refine wpAnyH_ready (rs := [12]) (by kernel_rfl) (by simp) (AllReadyH.cons (o := ⟨_, _, _, _, _, _⟩) rfl (fun K hK => ?_) AllReadyH.nil)
          rewrite [if_pos (wanted_free rfl)]
          go_simp
          have n11_0 : LabAt w10 d ls := (Sta.t (i := 1) HS10 rfl :).1.2
          (with_reducible refine (hC3 w10 x1 x2 n11_0).mono ?_)
          rintro r w11 ⟨rfl, hB11⟩
          have HS11 := Sta.call HS10 hB11
          clear hB11
          go_wp2_with fail
          refine hK.out _ _ ⟨(Sta.t (i := 1) HS11 rfl :).2.2.1, (Sta.t (i := 1) HS11 rfl :).2.2.2⟩ (fun hHeld => ?_)
          clear hK K
          try simp only [Act.put, List.setIfInBounds_toArray, List.set_cons_zero, List.set_cons_succ]
          refine wpAnyH_ready (rs := [13]) (by kernel_rfl) (by simp) (AllReadyH.cons (o := ⟨_, _, _, _, _, _⟩) rfl (fun K hK => ?_) AllReadyH.nil)
          rewrite [if_pos (wanted_free rfl)]
          with_reducible refine wp_buildBo (.tmp 69) (by with_unfolding_all rfl) (isB ls x1 x2 false) (by with_unfolding_all rfl) ?_
          intro w12 hA12 hB12
          have HS12 := Sta.new HS11 hA12 hB12 (by simp)
          clear hA12 hB12
          refine hK.out _ _ ⟨(Sta.t (i := 1) HS12 rfl :).2.2.1, (Sta.t (i := 1) HS12 rfl :).2.2.2⟩ (fun hHeld => ?_)
          clear hK K
          try simp only [Act.put, List.setIfInBounds_toArray, List.set_cons_zero, List.set_cons_succ]
          refine wpAnyH_ready (rs := [14]) (by kernel_rfl) (by simp) (AllReadyH.cons (o := ⟨_, _, _, _, _, _⟩) rfl (fun K hK => ?_) AllReadyH.nil)
          rewrite [if_pos (wanted_free rfl)]
          with_reducible refine wp_appendBo (W := w12) (.tmp 57) (.tmp 70) (by with_unfolding_all rfl) w.heap.size (.slice aa mm ca) ((st.map (holdN ls)).reverse) (isB ls x1 x2 false) (by with_unfolding_all rfl) (Sta.t (i := 0) HS12 rfl) w11.heap.size (by with_unfolding_all rfl) (Sta.r (i := 0) HS12 (by with_unfolding_all rfl)) (by have := HL.out; have := HM6.out; simp; omega) (Sta.size HS12) ?_
          intro v13 w13 hO13 hG13 hb13
          obtain ⟨a13, m13, c13, hm13, rfl⟩ := BoO.form hO13
          have HS13 := Sta.app 0 HS12 rfl (Nat.le_refl _) hO13 hG13 hb13
          have Hm13 := hidP hm13
          clear hO13 hG13 hb13 hm13
          refine hK.out _ _ ⟨(Sta.t (i := 1) HS13 rfl :).2.2.1, (Sta.t (i := 1) HS13 rfl :).2.2.2⟩ (fun hHeld => ?_)
          clear hK K
          try simp only [Act.put, List.setIfInBounds_toArray, List.set_cons_zero, List.set_cons_succ]
          refine wpAnyH_take (i := 15) (oi := ⟨_, _, _, _, _, _⟩) (v := .slice a13 m13 c13) rfl (by kernel_rfl) (by kernel_rfl) (by kernel_rfl) (fun _ _ _ h => h) (Or.inl ⟨wanted_free rfl, fun w' hSw => ?_⟩) hHeld ?_
          · go_simp
          try simp only [Act.put, List.setIfInBounds_toArray, List.set_cons_zero, List.set_cons_succ]
          refine wpAnyH_done (by kernel_rfl) ?_ _
          clear hHeld
          go_wp2_with fail
          have HS14 := Sta.imp 1 (fun w' => InsAt w' (some ⟨b, o, none⟩) l ∧ LabAt w' d ls) HS13 rfl (fun w' h => h.1)
          have HS15 := Sta.imp 0 (fun w' => BoO w' w.heap.size (.slice a13 m13 c13) (((Nd.is x1 x2 :: st).map (holdN ls)).reverse)) HS14 rfl (fun w' h => by have e : (((Nd.is x1 x2 :: st).map (holdN ls)).reverse) = (((st.map (holdN ls)).reverse) ++ [(isB ls x1 x2 false)]) := (by rw [List.map_cons, List.reverse_cons]; rfl); rw [e]; exact h)
          go_roundw
          case rel => exact ⟨k + 1, a13, m13, c13, (Nd.is x1 x2 :: st), by go_num, by go_num, hlt6, HR2, (by have := Hm13.out; show _ = _; simp at this ⊢; omega), Sta.drop 1 0 HS15⟩
          case measure => simp [intOf]; omega
        · as_aux_lemma =>
          have HR2 := hidP ((runN_snoc hkl hx0 hx1 hx2 HR.out).trans hs)
          subst h
          have tcHS9_1_0 : wl6.cell? ⟨b, o + k * 3, none⟩ = some (.int .i64 2) := (Sta.t (i := 1) HS9 rfl :).2.1
          have tcHS9_1_1 : wl6.cell? ⟨b, o + k * 3 + 1, none⟩ = some (.string x1) := (Sta.t (i := 1) HS9 rfl :).2.2.1
          go_wp2_with (first
            | (go_at_call 53; have n16_0 : LabAt wl6 d ls := (Sta.t (i := 1) HS9 rfl :).1.2; (with_reducible refine (hC4 wl6 x1 n16_0).mono ?_); rintro r w16 ⟨rfl, hB16⟩; have HS16 := Sta.call HS9 hB16; clear hB16; clear tcHS9_1_0 tcHS9_1_1)
            | ((with_reducible refine wpList_buildBo (w := w16) (by with_unfolding_all rfl) (.tmp 81) (by with_unfolding_all rfl) (isB ls x1 (⟨#[]⟩) true) (by with_unfolding_all rfl) ?_); intro w17 hA17 hB17; have HS17 := Sta.new HS16 hA17 hB17 (by simp); clear hA17 hB17)
            | ((with_reducible refine wpList_appendBo (W := w17) (by with_unfolding_all rfl) (.tmp 74) (.tmp 82) (by with_unfolding_all rfl) w.heap.size (.slice aa mm ca) ((st.map (holdN ls)).reverse) (isB ls x1 (⟨#[]⟩) true) (by with_unfolding_all rfl) (Sta.t (i := 0) HS17 rfl) w16.heap.size (by with_unfolding_all rfl) (Sta.r (i := 0) HS17 (by with_unfolding_all rfl)) (by have := HL.out; have := HM6.out; simp; omega) (Sta.size HS17) ?_); intro v18 w18 hO18 hG18 hb18; obtain ⟨a18, m18, c18, hm18, rfl⟩ := BoO.form hO18; have HS18 := Sta.app 0 HS17 rfl (Nat.le_refl _) hO18 hG18 hb18; have Hm18 := hidP hm18; clear hO18 hG18 hb18 hm18))
          have HS19 := Sta.imp 1 (fun w' => InsAt w' (some ⟨b, o, none⟩) l ∧ LabAt w' d ls) HS18 rfl (fun w' h => h.1)
          have HS20 := Sta.imp 0 (fun w' => BoO w' w.heap.size (.slice a18 m18 c18) (((Nd.has x1 :: st).map (holdN ls)).reverse)) HS19 rfl (fun w' h => by have e : (((Nd.has x1 :: st).map (holdN ls)).reverse) = (((st.map (holdN ls)).reverse) ++ [(isB ls x1 (⟨#[]⟩) true)]) := (by rw [List.map_cons, List.reverse_cons]; rfl); rw [e]; exact h)
          go_roundw
          case rel => exact ⟨k + 1, a18, m18, c18, (Nd.has x1 :: st), by go_num, by go_num, hlt6, HR2, (by have := Hm18.out; show _ = _; simp at this ⊢; omega), Sta.drop 1 0 HS20⟩
          case measure => simp [intOf]; omega
        · as_aux_lemma =>
          have HR2 := hidP ((runN_snoc hkl hx0 hx1 hx2 HR.out).trans hs)
          have hfm := BoO.forms (Sta.t (i := 0) HS9 rfl : BoO _ _ (.slice aa mm ca) _)
          subst h
          subst hst
          obtain ⟨g, rfl, hmc⟩ : ∃ g, aa = some ⟨g, 0, none⟩ ∧ mm ≤ ca := by
            rcases hfm with ⟨_, h0⟩ | ⟨g, c', n', _, h1, h2⟩
            · exact absurd h0 (by simp)
            · injection h1 with e1 e2 e3; subst e1 e2 e3; exact ⟨g, rfl, h2⟩
          obtain ⟨m1, hm1⟩ : ∃ m1, mm = m1 + 1 := ⟨r.length, by have := HL.out; simp at this; omega⟩
          have HL1 : Hid (((r.map (holdN ls)).reverse).length = m1) := by have := HL.out; simp at this; show _ = _; rw [List.length_reverse, List.length_map]; omega
          have hm60 := HM6.out
          have HM1 := hidP hm1
          clear hfm
          have ek : (mm : Int) - 1 = (m1 : Int) := by omega
          have ewk : IntKind.i64.wrap (m1 : Int) = (m1 : Int) := by simp [IntKind.wrap, IntKind.signed, IntKind.bits]; omega
          have lk1 : (m1 : Int) < (mm : Int) := by omega
          have l01 : (0 : Int) ≤ (m1 : Int) := by omega
          clear hm1
          have HS21 := Sta.imp 0 (fun w' => BoO w' w.heap.size (.slice (some ⟨g, 0, none⟩) mm ca) ((r.map (holdN ls)).reverse ++ [holdN ls q1]) ∧ w'.cell? ⟨g, m1, none⟩ = some (.bool (holdN ls q1))) HS9 rfl (fun w' h => not_cells h HL1.out)
          have tcHS21_1_0 : wl6.cell? ⟨b, o + k * 3, none⟩ = some (.int .i64 3) := (Sta.t (i := 1) HS21 rfl :).2.1
          have tcHS21_0_0 : wl6.cell? ⟨g, m1, none⟩ = some (.bool (holdN ls q1)) := (Sta.t (i := 0) HS21 rfl :).2
          go_wp2_with (first
            | (have HS22a := Sta.imp 0 (fun w' => BoO w' w.heap.size (.slice (some ⟨g, 0, none⟩) mm ca) ((r.map (holdN ls)).reverse ++ [holdN ls q1])) HS21 rfl (fun w' h => h.1); (with_reducible refine wpList_setBo (w := wl6) (by with_unfolding_all rfl) (.tmp 95) (.tmp 94) (by with_unfolding_all rfl) w.heap.size g mm ca m1 ((r.map (holdN ls)).reverse ++ [holdN ls q1]) ((r.map (holdN ls)).reverse ++ [!holdN ls q1]) (!holdN ls q1) (by with_unfolding_all rfl) (by with_unfolding_all rfl) (Sta.t (i := 0) HS22a rfl) (by have := HL1.out; simp; simp at this; omega) (set_last HL1.out) ?_); intro w22 hO22 hG22; have HS22 := Sta.app 0 HS22a rfl (Nat.le_refl _) hO22 hG22 (Or.inl rfl); clear hO22 hG22 HS22a; clear tcHS21_1_0 tcHS21_0_0))
          have HS23 := Sta.imp 1 (fun w' => InsAt w' (some ⟨b, o, none⟩) l ∧ LabAt w' d ls) HS22 rfl (fun w' h => h.1)
          have HS24 := Sta.imp 0 (fun w' => BoO w' w.heap.size (.slice (some ⟨g, 0, none⟩) mm ca) (((Nd.neg q1 :: r).map (holdN ls)).reverse)) HS23 rfl (fun w' h => by have e : (((Nd.neg q1 :: r).map (holdN ls)).reverse) = (r.map (holdN ls)).reverse ++ [!holdN ls q1] := (by rw [List.map_cons, List.reverse_cons]; rfl); rw [e]; exact h)
          go_roundw
          case rel => exact ⟨k + 1, (some ⟨g, 0, none⟩), mm, ca, (Nd.neg q1 :: r), by go_num, by go_num, hlt6, HR2, (by have := HL.out; show _ = _; simp at this ⊢; omega), HS24⟩
          case measure => simp [intOf]; omega
        · as_aux_lemma =>
          have HR2 := hidP ((runN_snoc hkl hx0 hx1 hx2 HR.out).trans hs)
          have hfm := BoO.forms (Sta.t (i := 0) HS9 rfl : BoO _ _ (.slice aa mm ca) _)
          subst h
          subst hst
          obtain ⟨g, rfl, hmc⟩ : ∃ g, aa = some ⟨g, 0, none⟩ ∧ mm ≤ ca := by
            rcases hfm with ⟨_, h0⟩ | ⟨g, c', n', _, h1, h2⟩
            · exact absurd h0 (by simp)
            · injection h1 with e1 e2 e3; subst e1 e2 e3; exact ⟨g, rfl, h2⟩
          obtain ⟨m1, hm1⟩ : ∃ m1, mm = m1 + 2 := ⟨r.length, by have := HL.out; simp at this; omega⟩
          have HL1 : Hid (((r.map (holdN ls)).reverse).length = m1) := by have := HL.out; simp at this; show _ = _; rw [List.length_reverse, List.length_map]; omega
          have hm60 := HM6.out
          have HM1 := hidP hm1
          clear hfm
          obtain ⟨m2, hm2'⟩ : ∃ m2, m2 = m1 + 1 := ⟨_, rfl⟩
          have HM2 := hidP hm2'
          have ek : (mm : Int) - 2 = (m1 : Int) := by omega
          have ek2 : (mm : Int) - 1 = (m2 : Int) := by omega
          have ewk : IntKind.i64.wrap (m1 : Int) = (m1 : Int) := by simp [IntKind.wrap, IntKind.signed, IntKind.bits]; omega
          have ewk2 : IntKind.i64.wrap (m2 : Int) = (m2 : Int) := by simp [IntKind.wrap, IntKind.signed, IntKind.bits]; omega
          have lk1 : (m1 : Int) < (mm : Int) := by omega
          have lk2 : (m2 : Int) < (mm : Int) := by omega
          have l01 : (0 : Int) ≤ (m1 : Int) := by omega
          have l02 : (0 : Int) ≤ (m2 : Int) := by omega
          have sl := Try.sliceLoB g 0 mm ca m2 (by omega)
          have HB1 := hidP hb1
          clear hm1 hm2' hb1
          have HS25 := Sta.imp 0 (fun w' => BoO w' w.heap.size (.slice (some ⟨g, 0, none⟩) mm ca) ((r.map (holdN ls)).reverse ++ [false, holdN ls q2]) ∧ w'.cell? ⟨g, m1, none⟩ = some (.bool false) ∧ w'.cell? ⟨g, m2, none⟩ = some (.bool (holdN ls q2))) HS9 rfl (fun w' h => par_cells h HL1.out HB1.out HM2.out)
          have tcHS25_1_0 : wl6.cell? ⟨b, o + k * 3, none⟩ = some (.int .i64 4) := (Sta.t (i := 1) HS25 rfl :).2.1
          have tcHS25_0_0 : wl6.cell? ⟨g, m1, none⟩ = some (.bool false) := (Sta.t (i := 0) HS25 rfl :).2.1
          go_wp2_with (first
            | (have HS26a := Sta.imp 0 (fun w' => BoO w' w.heap.size (.slice (some ⟨g, 0, none⟩) mm ca) ((r.map (holdN ls)).reverse ++ [false, holdN ls q2])) HS25 rfl (fun w' h => h.1); (with_reducible refine wpList_setBo (w := wl6) (by with_unfolding_all rfl) (.tmp 113) (.tmp 112) (by with_unfolding_all rfl) w.heap.size g mm ca m1 ((r.map (holdN ls)).reverse ++ [false, holdN ls q2]) ((r.map (holdN ls)).reverse ++ [false, holdN ls q2]) false (by with_unfolding_all rfl) (by with_unfolding_all rfl) (Sta.t (i := 0) HS26a rfl) (by have := HL1.out; simp; simp at this; omega) (set_pen HL1.out) ?_); intro w26 hO26 hG26; have HS26 := Sta.app 0 HS26a rfl (Nat.le_refl _) hO26 hG26 (Or.inl rfl); clear hO26 hG26 HS26a; clear tcHS25_1_0 tcHS25_0_0))
          have HS27 := Sta.imp 1 (fun w' => InsAt w' (some ⟨b, o, none⟩) l ∧ LabAt w' d ls) HS26 rfl (fun w' h => h.1)
          have HS28 := Sta.imp 0 (fun w' => BoO w' w.heap.size (.slice (some ⟨g, 0, none⟩) m2 ca) (((Nd.par 4 q1 q2 :: r).map (holdN ls)).reverse)) HS27 rfl (fun w' h => par_next (op := 4) (by show (if (4 : Int) = 4 then _ else _) = _; rw [HB1.out]; first | rfl | (cases holdN ls q2 <;> rfl)) (by have := HL1.out; have := HM2.out; omega) HL1.out h)
          go_roundw
          case rel => exact ⟨k + 1, (some ⟨g, 0, none⟩), m2, ca, (Nd.par 4 q1 q2 :: r), by go_num, by go_num, hlt6, HR2, (by have h1 := HL.out; have h2 := HM1.out; have h3 := HM2.out; show _ = _; simp at h1 ⊢; omega), HS28⟩
          case measure => simp [intOf]; omega
        · as_aux_lemma =>
          have HR2 := hidP ((runN_snoc hkl hx0 hx1 hx2 HR.out).trans hs)
          have hfm := BoO.forms (Sta.t (i := 0) HS9 rfl : BoO _ _ (.slice aa mm ca) _)
          subst h
          subst hst
          obtain ⟨g, rfl, hmc⟩ : ∃ g, aa = some ⟨g, 0, none⟩ ∧ mm ≤ ca := by
            rcases hfm with ⟨_, h0⟩ | ⟨g, c', n', _, h1, h2⟩
            · exact absurd h0 (by simp)
            · injection h1 with e1 e2 e3; subst e1 e2 e3; exact ⟨g, rfl, h2⟩
          obtain ⟨m1, hm1⟩ : ∃ m1, mm = m1 + 2 := ⟨r.length, by have := HL.out; simp at this; omega⟩
          have HL1 : Hid (((r.map (holdN ls)).reverse).length = m1) := by have := HL.out; simp at this; show _ = _; rw [List.length_reverse, List.length_map]; omega
          have hm60 := HM6.out
          have HM1 := hidP hm1
          clear hfm
          obtain ⟨m2, hm2'⟩ : ∃ m2, m2 = m1 + 1 := ⟨_, rfl⟩
          have HM2 := hidP hm2'
          have ek : (mm : Int) - 2 = (m1 : Int) := by omega
          have ek2 : (mm : Int) - 1 = (m2 : Int) := by omega
          have ewk : IntKind.i64.wrap (m1 : Int) = (m1 : Int) := by simp [IntKind.wrap, IntKind.signed, IntKind.bits]; omega
          have ewk2 : IntKind.i64.wrap (m2 : Int) = (m2 : Int) := by simp [IntKind.wrap, IntKind.signed, IntKind.bits]; omega
          have lk1 : (m1 : Int) < (mm : Int) := by omega
          have lk2 : (m2 : Int) < (mm : Int) := by omega
          have l01 : (0 : Int) ≤ (m1 : Int) := by omega
          have l02 : (0 : Int) ≤ (m2 : Int) := by omega
          have sl := Try.sliceLoB g 0 mm ca m2 (by omega)
          have HB1 := hidP hb1
          clear hm1 hm2' hb1
          have HS29 := Sta.imp 0 (fun w' => BoO w' w.heap.size (.slice (some ⟨g, 0, none⟩) mm ca) ((r.map (holdN ls)).reverse ++ [true, holdN ls q2]) ∧ w'.cell? ⟨g, m1, none⟩ = some (.bool true) ∧ w'.cell? ⟨g, m2, none⟩ = some (.bool (holdN ls q2))) HS9 rfl (fun w' h => par_cells h HL1.out HB1.out HM2.out)
          have tcHS29_1_0 : wl6.cell? ⟨b, o + k * 3, none⟩ = some (.int .i64 4) := (Sta.t (i := 1) HS29 rfl :).2.1
          have tcHS29_0_0 : wl6.cell? ⟨g, m1, none⟩ = some (.bool true) := (Sta.t (i := 0) HS29 rfl :).2.1
          have tcHS29_0_1 : wl6.cell? ⟨g, m2, none⟩ = some (.bool (holdN ls q2)) := (Sta.t (i := 0) HS29 rfl :).2.2
          go_wp2_with (first
            | (have HS30a := Sta.imp 0 (fun w' => BoO w' w.heap.size (.slice (some ⟨g, 0, none⟩) mm ca) ((r.map (holdN ls)).reverse ++ [true, holdN ls q2])) HS29 rfl (fun w' h => h.1); (with_reducible refine wpList_setBo (w := wl6) (by with_unfolding_all rfl) (.tmp 113) (.tmp 112) (by with_unfolding_all rfl) w.heap.size g mm ca m1 ((r.map (holdN ls)).reverse ++ [true, holdN ls q2]) ((r.map (holdN ls)).reverse ++ [(holdN ls q2), holdN ls q2]) (holdN ls q2) (by with_unfolding_all rfl) (by with_unfolding_all rfl) (Sta.t (i := 0) HS30a rfl) (by have := HL1.out; simp; simp at this; omega) (set_pen HL1.out) ?_); intro w30 hO30 hG30; have HS30 := Sta.app 0 HS30a rfl (Nat.le_refl _) hO30 hG30 (Or.inl rfl); clear hO30 hG30 HS30a; clear tcHS29_1_0 tcHS29_0_0 tcHS29_0_1))
          have HS31 := Sta.imp 1 (fun w' => InsAt w' (some ⟨b, o, none⟩) l ∧ LabAt w' d ls) HS30 rfl (fun w' h => h.1)
          have HS32 := Sta.imp 0 (fun w' => BoO w' w.heap.size (.slice (some ⟨g, 0, none⟩) m2 ca) (((Nd.par 4 q1 q2 :: r).map (holdN ls)).reverse)) HS31 rfl (fun w' h => par_next (op := 4) (by show (if (4 : Int) = 4 then _ else _) = _; rw [HB1.out]; first | rfl | (cases holdN ls q2 <;> rfl)) (by have := HL1.out; have := HM2.out; omega) HL1.out h)
          go_roundw
          case rel => exact ⟨k + 1, (some ⟨g, 0, none⟩), m2, ca, (Nd.par 4 q1 q2 :: r), by go_num, by go_num, hlt6, HR2, (by have h1 := HL.out; have h2 := HM1.out; have h3 := HM2.out; show _ = _; simp at h1 ⊢; omega), HS32⟩
          case measure => simp [intOf]; omega
        · as_aux_lemma =>
          have HR2 := hidP ((runN_snoc hkl hx0 hx1 hx2 HR.out).trans hs)
          have hfm := BoO.forms (Sta.t (i := 0) HS9 rfl : BoO _ _ (.slice aa mm ca) _)
          subst h
          subst hst
          obtain ⟨g, rfl, hmc⟩ : ∃ g, aa = some ⟨g, 0, none⟩ ∧ mm ≤ ca := by
            rcases hfm with ⟨_, h0⟩ | ⟨g, c', n', _, h1, h2⟩
            · exact absurd h0 (by simp)
            · injection h1 with e1 e2 e3; subst e1 e2 e3; exact ⟨g, rfl, h2⟩
          obtain ⟨m1, hm1⟩ : ∃ m1, mm = m1 + 2 := ⟨r.length, by have := HL.out; simp at this; omega⟩
          have HL1 : Hid (((r.map (holdN ls)).reverse).length = m1) := by have := HL.out; simp at this; show _ = _; rw [List.length_reverse, List.length_map]; omega
          have hm60 := HM6.out
          have HM1 := hidP hm1
          clear hfm
          obtain ⟨m2, hm2'⟩ : ∃ m2, m2 = m1 + 1 := ⟨_, rfl⟩
          have HM2 := hidP hm2'
          have ek : (mm : Int) - 2 = (m1 : Int) := by omega
          have ek2 : (mm : Int) - 1 = (m2 : Int) := by omega
          have ewk : IntKind.i64.wrap (m1 : Int) = (m1 : Int) := by simp [IntKind.wrap, IntKind.signed, IntKind.bits]; omega
          have ewk2 : IntKind.i64.wrap (m2 : Int) = (m2 : Int) := by simp [IntKind.wrap, IntKind.signed, IntKind.bits]; omega
          have lk1 : (m1 : Int) < (mm : Int) := by omega
          have lk2 : (m2 : Int) < (mm : Int) := by omega
          have l01 : (0 : Int) ≤ (m1 : Int) := by omega
          have l02 : (0 : Int) ≤ (m2 : Int) := by omega
          have sl := Try.sliceLoB g 0 mm ca m2 (by omega)
          have HB1 := hidP hb1
          clear hm1 hm2' hb1
          have HS33 := Sta.imp 0 (fun w' => BoO w' w.heap.size (.slice (some ⟨g, 0, none⟩) mm ca) ((r.map (holdN ls)).reverse ++ [false, holdN ls q2]) ∧ w'.cell? ⟨g, m1, none⟩ = some (.bool false) ∧ w'.cell? ⟨g, m2, none⟩ = some (.bool (holdN ls q2))) HS9 rfl (fun w' h => par_cells h HL1.out HB1.out HM2.out)
          have tcHS33_1_0 : wl6.cell? ⟨b, o + k * 3, none⟩ = some (.int .i64 5) := (Sta.t (i := 1) HS33 rfl :).2.1
          have tcHS33_0_0 : wl6.cell? ⟨g, m1, none⟩ = some (.bool false) := (Sta.t (i := 0) HS33 rfl :).2.1
          have tcHS33_0_1 : wl6.cell? ⟨g, m2, none⟩ = some (.bool (holdN ls q2)) := (Sta.t (i := 0) HS33 rfl :).2.2
          go_wp2_with (first
            | (have HS34a := Sta.imp 0 (fun w' => BoO w' w.heap.size (.slice (some ⟨g, 0, none⟩) mm ca) ((r.map (holdN ls)).reverse ++ [false, holdN ls q2])) HS33 rfl (fun w' h => h.1); (with_reducible refine wpList_setBo (w := wl6) (by with_unfolding_all rfl) (.tmp 50) (.tmp 49) (by with_unfolding_all rfl) w.heap.size g mm ca m1 ((r.map (holdN ls)).reverse ++ [false, holdN ls q2]) ((r.map (holdN ls)).reverse ++ [(holdN ls q2), holdN ls q2]) (holdN ls q2) (by with_unfolding_all rfl) (by with_unfolding_all rfl) (Sta.t (i := 0) HS34a rfl) (by have := HL1.out; simp; simp at this; omega) (set_pen HL1.out) ?_); intro w34 hO34 hG34; have HS34 := Sta.app 0 HS34a rfl (Nat.le_refl _) hO34 hG34 (Or.inl rfl); clear hO34 hG34 HS34a; clear tcHS33_1_0 tcHS33_0_0 tcHS33_0_1))
          have HS35 := Sta.imp 1 (fun w' => InsAt w' (some ⟨b, o, none⟩) l ∧ LabAt w' d ls) HS34 rfl (fun w' h => h.1)
          have HS36 := Sta.imp 0 (fun w' => BoO w' w.heap.size (.slice (some ⟨g, 0, none⟩) m2 ca) (((Nd.par 5 q1 q2 :: r).map (holdN ls)).reverse)) HS35 rfl (fun w' h => par_next (op := 5) (by show (if (5 : Int) = 4 then _ else _) = _; rw [HB1.out]; first | rfl | (cases holdN ls q2 <;> rfl)) (by have := HL1.out; have := HM2.out; omega) HL1.out h)
          go_roundw
          case rel => exact ⟨k + 1, (some ⟨g, 0, none⟩), m2, ca, (Nd.par 5 q1 q2 :: r), by go_num, by go_num, hlt6, HR2, (by have h1 := HL.out; have h2 := HM1.out; have h3 := HM2.out; show _ = _; simp at h1 ⊢; omega), HS36⟩
          case measure => simp [intOf]; omega
        · as_aux_lemma =>
          have HR2 := hidP ((runN_snoc hkl hx0 hx1 hx2 HR.out).trans hs)
          have hfm := BoO.forms (Sta.t (i := 0) HS9 rfl : BoO _ _ (.slice aa mm ca) _)
          subst h
          subst hst
          obtain ⟨g, rfl, hmc⟩ : ∃ g, aa = some ⟨g, 0, none⟩ ∧ mm ≤ ca := by
            rcases hfm with ⟨_, h0⟩ | ⟨g, c', n', _, h1, h2⟩
            · exact absurd h0 (by simp)
            · injection h1 with e1 e2 e3; subst e1 e2 e3; exact ⟨g, rfl, h2⟩
          obtain ⟨m1, hm1⟩ : ∃ m1, mm = m1 + 2 := ⟨r.length, by have := HL.out; simp at this; omega⟩
          have HL1 : Hid (((r.map (holdN ls)).reverse).length = m1) := by have := HL.out; simp at this; show _ = _; rw [List.length_reverse, List.length_map]; omega
          have hm60 := HM6.out
          have HM1 := hidP hm1
          clear hfm
          obtain ⟨m2, hm2'⟩ : ∃ m2, m2 = m1 + 1 := ⟨_, rfl⟩
          have HM2 := hidP hm2'
          have ek : (mm : Int) - 2 = (m1 : Int) := by omega
          have ek2 : (mm : Int) - 1 = (m2 : Int) := by omega
          have ewk : IntKind.i64.wrap (m1 : Int) = (m1 : Int) := by simp [IntKind.wrap, IntKind.signed, IntKind.bits]; omega
          have ewk2 : IntKind.i64.wrap (m2 : Int) = (m2 : Int) := by simp [IntKind.wrap, IntKind.signed, IntKind.bits]; omega
          have lk1 : (m1 : Int) < (mm : Int) := by omega
          have lk2 : (m2 : Int) < (mm : Int) := by omega
          have l01 : (0 : Int) ≤ (m1 : Int) := by omega
          have l02 : (0 : Int) ≤ (m2 : Int) := by omega
          have sl := Try.sliceLoB g 0 mm ca m2 (by omega)
          have HB1 := hidP hb1
          clear hm1 hm2' hb1
          have HS37 := Sta.imp 0 (fun w' => BoO w' w.heap.size (.slice (some ⟨g, 0, none⟩) mm ca) ((r.map (holdN ls)).reverse ++ [true, holdN ls q2]) ∧ w'.cell? ⟨g, m1, none⟩ = some (.bool true) ∧ w'.cell? ⟨g, m2, none⟩ = some (.bool (holdN ls q2))) HS9 rfl (fun w' h => par_cells h HL1.out HB1.out HM2.out)
          have tcHS37_1_0 : wl6.cell? ⟨b, o + k * 3, none⟩ = some (.int .i64 5) := (Sta.t (i := 1) HS37 rfl :).2.1
          have tcHS37_0_0 : wl6.cell? ⟨g, m1, none⟩ = some (.bool true) := (Sta.t (i := 0) HS37 rfl :).2.1
          go_wp2_with (first
            | (have HS38a := Sta.imp 0 (fun w' => BoO w' w.heap.size (.slice (some ⟨g, 0, none⟩) mm ca) ((r.map (holdN ls)).reverse ++ [true, holdN ls q2])) HS37 rfl (fun w' h => h.1); (with_reducible refine wpList_setBo (w := wl6) (by with_unfolding_all rfl) (.tmp 50) (.tmp 49) (by with_unfolding_all rfl) w.heap.size g mm ca m1 ((r.map (holdN ls)).reverse ++ [true, holdN ls q2]) ((r.map (holdN ls)).reverse ++ [true, holdN ls q2]) true (by with_unfolding_all rfl) (by with_unfolding_all rfl) (Sta.t (i := 0) HS38a rfl) (by have := HL1.out; simp; simp at this; omega) (set_pen HL1.out) ?_); intro w38 hO38 hG38; have HS38 := Sta.app 0 HS38a rfl (Nat.le_refl _) hO38 hG38 (Or.inl rfl); clear hO38 hG38 HS38a; clear tcHS37_1_0 tcHS37_0_0))
          have HS39 := Sta.imp 1 (fun w' => InsAt w' (some ⟨b, o, none⟩) l ∧ LabAt w' d ls) HS38 rfl (fun w' h => h.1)
          have HS40 := Sta.imp 0 (fun w' => BoO w' w.heap.size (.slice (some ⟨g, 0, none⟩) m2 ca) (((Nd.par 5 q1 q2 :: r).map (holdN ls)).reverse)) HS39 rfl (fun w' h => par_next (op := 5) (by show (if (5 : Int) = 4 then _ else _) = _; rw [HB1.out]; first | rfl | (cases holdN ls q2 <;> rfl)) (by have := HL1.out; have := HM2.out; omega) HL1.out h)
          go_roundw
          case rel => exact ⟨k + 1, (some ⟨g, 0, none⟩), m2, ca, (Nd.par 5 q1 q2 :: r), by go_num, by go_num, hlt6, HR2, (by have h1 := HL.out; have h2 := HM1.out; have h3 := HM2.out; show _ = _; simp at h1 ⊢; omega), HS40⟩
          case measure => simp [intOf]; omega
end Go.Proofs.Ytaalegjhhpfhbaa
