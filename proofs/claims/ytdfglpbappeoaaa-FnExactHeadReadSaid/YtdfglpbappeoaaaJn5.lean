/- putNums of the program: the bytes of numbers, one behind the other; slices that are built of numbers; LinkBytes of the program. Are targets right? On the program's side. -/
import Derived.Test.YtdfglpbappeoaaaMetB
import Derived.Test.YtdfglpbappeoaaaJn3
import Derived.Great.BuildSlice
import Derived.Great.FillDense
import Derived.Test.YtdfglpbappeoaaaJn2
namespace Go.Proofs.Ytdfglpbappeoaaa
open Go.RowKit
set_option linter.unusedVariables false

def ivs (l : List Int) : List Value := l.map (Value.int .i64)
theorem RowV.ai {w : World} {g : Nat} {l : List Int} (h : RowV w g (ivs l)) : AI w (some ⟨g, 0, none⟩) l := fun k hk => ⟨g, 0, rfl, by rw [Nat.zero_add]; exact h.cell (by unfold ivs; rw [List.getElem?_map, List.getElem?_eq_getElem hk]; rfl)⟩
theorem wpList_build2 {ops : Array Oper} {rest : List Oper} {o : Oper} {a : Act} {w : World} {Q : Exit → Act → World → Prop} (hg : o.guard = none) (x0 x1 : Operand)
    (ho : o.op = .buildSlice 93 2 #[(0, x0), (1, x1)]) (v0 v1 : Int) (e0 : a.eval x0 = .int .i64 v0) (e1 : a.eval x1 = .int .i64 v1)
    (h : ∀ w', AI w' (some ⟨w.heap.size, 0, none⟩) [v0, v1] → Below w.heap.size w w' → wpList Try.prog ops Q rest (a.put o.dst (.slice (some ⟨w.heap.size, 0, none⟩) 2 2)) w') : wpList Try.prog ops Q (o :: rest) a w := by
  obtain ⟨i0, hi, hz0, hz1, hz2⟩ := info_parts Try.infoNum
  refine wpList_buildSlice hg 93 2 2 _ ho (ivs [v0, v1]).toArray i0 (.int .i64 0) Try.underlying93 hi hz0 (by rw [hz1]; omega) (by rw [hz1]; omega) ?_ (h _ (RowV.ai (RowV.new w (ivs [v0, v1]) 2)) ((Below.refl _ _).alloc (Nat.le_refl _) _))
  rw [hz1]
  simp only [List.map_toArray, List.map, e0, e1]
  exact Great.fill_flat (ivs [v0, v1]) _ (fun v hv => by simp [ivs] at hv; rcases hv with h | h <;> (rw [h]; rfl)) (by simp [ivs])
theorem wpList_build3 {ops : Array Oper} {rest : List Oper} {o : Oper} {a : Act} {w : World} {Q : Exit → Act → World → Prop} (hg : o.guard = none) (x0 x1 x2 : Operand)
    (ho : o.op = .buildSlice 93 3 #[(0, x0), (1, x1), (2, x2)]) (v0 v1 v2 : Int) (e0 : a.eval x0 = .int .i64 v0) (e1 : a.eval x1 = .int .i64 v1) (e2 : a.eval x2 = .int .i64 v2)
    (h : ∀ w', AI w' (some ⟨w.heap.size, 0, none⟩) [v0, v1, v2] → Below w.heap.size w w' → wpList Try.prog ops Q rest (a.put o.dst (.slice (some ⟨w.heap.size, 0, none⟩) 3 3)) w') : wpList Try.prog ops Q (o :: rest) a w := by
  obtain ⟨i0, hi, hz0, hz1, hz2⟩ := info_parts Try.infoNum
  refine wpList_buildSlice hg 93 2 3 _ ho (ivs [v0, v1, v2]).toArray i0 (.int .i64 0) Try.underlying93 hi hz0 (by rw [hz1]; omega) (by rw [hz1]; omega) ?_ (h _ (RowV.ai (RowV.new w (ivs [v0, v1, v2]) 2)) ((Below.refl _ _).alloc (Nat.le_refl _) _))
  rw [hz1]
  simp only [List.map_toArray, List.map, e0, e1, e2]
  exact Great.fill_flat (ivs [v0, v1, v2]) _ (fun v hv => by simp [ivs] at hv; rcases hv with h | h | h <;> (rw [h]; rfl)) (by simp [ivs])
theorem wpList_build3G {ops : Array Oper} {rest : List Oper} {o : Oper} {a : Act} {w : World} {Q : Exit → Act → World → Prop} (hg : o.guard = none) (x0 x1 x2 : Operand)
    (ho : o.op = .buildSlice 93 3 #[(0, x0), (1, x1), (2, x2)]) (v0 v1 v2 : Int) (e0 : a.eval x0 = .int .i64 v0) (e1 : a.eval x1 = .int .i64 v1) (e2 : a.eval x2 = .int .i64 v2) (G : Nat) (hG : w.heap.size = G)
    (h : ∀ w', AI w' (some ⟨G, 0, none⟩) [v0, v1, v2] → Below w.heap.size w w' → wpList Try.prog ops Q rest (a.put o.dst (.slice (some ⟨G, 0, none⟩) 3 3)) w') : wpList Try.prog ops Q (o :: rest) a w := by
  subst hG
  exact wpList_build3 hg x0 x1 x2 ho v0 v1 v2 e0 e1 e2 h
theorem wpList_build2G {ops : Array Oper} {rest : List Oper} {o : Oper} {a : Act} {w : World} {Q : Exit → Act → World → Prop} (hg : o.guard = none) (x0 x1 : Operand)
    (ho : o.op = .buildSlice 93 2 #[(0, x0), (1, x1)]) (v0 v1 : Int) (e0 : a.eval x0 = .int .i64 v0) (e1 : a.eval x1 = .int .i64 v1) (G : Nat) (hG : w.heap.size = G)
    (h : ∀ w', AI w' (some ⟨G, 0, none⟩) [v0, v1] → Below w.heap.size w w' → wpList Try.prog ops Q rest (a.put o.dst (.slice (some ⟨G, 0, none⟩) 2 2)) w') : wpList Try.prog ops Q (o :: rest) a w := by
  subst hG
  exact wpList_build2 hg x0 x1 ho v0 v1 e0 e1 h
theorem putKs_app (t u : ByteArray) (ks : List Int) : t ++ putKs u ks = putKs (t ++ u) ks := by
  induction ks generalizing u with
  | nil => rfl
  | cons k ks ih => show t ++ putKs (u ++ putS k) ks = putKs ((t ++ u) ++ putS k) ks; rw [ih, ByteArray.append_assoc]
theorem putKs_cons (t : ByteArray) (k : Int) (ks : List Int) : putKs t (k :: ks) = putKs (t ++ putS k) ks := rfl
theorem putKs_nil (t : ByteArray) : putKs t [] = t := rfl
theorem putKs_size (t : ByteArray) (ks : List Int) : (putKs t ks).size ≤ t.size + 10 * ks.length := by
  induction ks generalizing t with
  | nil => exact Nat.le_refl _
  | cons k ks ih =>
    rw [putKs_cons]
    have := ih (t ++ putS k)
    rw [ByteArray.size_append] at this
    have := putS_size k
    rw [List.length_cons]
    omega
theorem bytes_nil_app (t : ByteArray) : (⟨#[]⟩ : ByteArray) ++ t = t := ByteArray.empty_append
theorem app_nil (t : ByteArray) : t ++ (⟨#[]⟩ : ByteArray) = t := ByteArray.append_empty
structure KpAI (w : World) (a : Option Addr) (ks : List Int) (w' : World) : Prop where
  below : Below w.heap.size w w'
  ai : AI w' a ks
theorem KpAI.call {w w' w2 : World} {a : Option Addr} {ks : List Int} (h : Hid (KpAI w a ks w')) (hb : Below w'.heap.size w' w2) : Hid (KpAI w a ks w2) := ⟨h.out.below.trans (hb.mono h.out.below.size), h.out.ai.below hb⟩
set_option maxRecDepth 100000 in
set_option maxHeartbeats 1000000 in
theorem putNumsI (a : Option Addr) (c n : Nat) (ks : List Int) (w : World) (hn : ks.length = n) (h : AI w a ks) (hb : n ≤ 1000) (hw : ∀ x ∈ ks, I64 x) :
    Calls Try.prog 88 #[.slice a n c] w fun e w' => e = .returned (.string (putKs ⟨#[]⟩ ks)) ∧ Below w.heap.size w w' := by
  have HN : Hid (ks.length = n) := hn
  have HS0 : Hid (KpAI w a ks w) := ⟨Below.refl _ _, h⟩
  have HW : Hid (∀ x ∈ ks, I64 x) := hw
  obtain ⟨R, hRR⟩ : ∃ R, putKs ⟨#[]⟩ ks = R := ⟨_, rfl⟩
  have HF : Hid (R = putKs ⟨#[]⟩ (ks.drop 0)) := hRR.symm
  rw [hRR]
  clear h hn hw hRR
  go_enter Try.func88, Try.ntmps88
  go_wp2_with fail
  go_loopw [3, 8] (fun vt vi wr => ∃ (i : Nat) (T : ByteArray), vi = .int .i64 (i : Int) ∧ vt = .string T ∧ i ≤ n ∧ T.size ≤ 10 * i ∧ Hid (R = putKs T (ks.drop i)) ∧ Hid (KpAI w a ks wr)) (fun _ vi _ => n - (intOf vi).toNat)
  case atStart => exact ⟨0, ⟨#[]⟩, rfl, rfl, Nat.zero_le _, Nat.zero_le _, HF, HS0⟩
  case round =>
    clear HF HS0
    obtain ⟨i, T, rfl, rfl, hi, hTs, HT, HS⟩ := hrel
    by_cases hlt : i < n
    case neg =>
      obtain rfl : i = n := by omega
      have HE : Hid (R = T) := by
        show _ = _
        have := HT.out
        rw [← HN.out, putKs_end] at this
        exact this
      go_wp2
      go_ret
      exact ⟨by rw [HE.out]; rfl, HS.out.below⟩
    have hil : i < ks.length := by have := HN.out; omega
    obtain ⟨b, o, rfl, hc0⟩ := HS.out.ai i hil
    have x1 := HW.out ks[i] (List.getElem_mem hil)
    have HT2 : Hid (R = putKs (T ++ putS ks[i]) (ks.drop (i + 1))) := by show _ = _; rw [HT.out, putKs_step hil]
    generalize ks[i] = z at *
    have hP : ∀ w0, Calls Try.prog 72 #[.int .i64 z] w0 fun r w' => r = .returned (.string (putS z)) ∧ Below w0.heap.size w0 w' := fun w0 => implPut z w0 x1
    have s0 := putS_size z
    generalize putS z = q0 at *
    obtain ⟨T1, hT1⟩ : ∃ T1, T ++ q0 = T1 := ⟨_, rfl⟩
    have t1s : T1.size ≤ 10 * (i + 1) := by rw [← hT1, ByteArray.size_append]; omega
    rw [hT1] at HT2
    have y1 : ¬ 9223372036854775807 < T.size + q0.size := by omega
    have li : (i : Int) < n := by omega
    have l0 : (0 : Int) ≤ i := by omega
    clear x1 hil HT
    go_wp2_with (go_at_call 72; with_reducible refine (hP _).mono ?_; rintro r w8 ⟨rfl, h8⟩; have HS8 := KpAI.call HS h8)
    go_roundw
    case rel => exact ⟨i + 1, T1, by go_num, rfl, by omega, by omega, HT2, HS8⟩
    case measure => simp [intOf]; omega
end Go.Proofs.Ytdfglpbappeoaaa
namespace Go.Proofs.Ytdfglpbappeoaaa
open Go.RowKit
set_option linter.unusedVariables false

theorem implNameB (s : ByteArray) (w : World) (hs : s.size ≤ maxLen) : Calls Try.prog 79 #[.string s] w fun e w' => e = .returned (.bool (nameB s)) ∧ w = w' := by
  refine (implName s w hs).mono ?_
  rintro e w' ⟨⟨b, rfl, hb⟩, rfl⟩
  refine ⟨?_, rfl⟩
  have : b = nameB s := by
    cases b with
    | true => exact (nameB_yes (hb.1 rfl)).symm
    | false => exact (nameB_no (fun h => by have := hb.2 h; cases this)).symm
  rw [this]
theorem sizedI (t : ByteArray) (w : World) (hm : t.size ≤ maxLen) :
    Calls Try.prog 80 #[.string t] w fun e w' => e = .returned (.bool (decide (t.size = 32))) ∧ w = w' := by
  unfold maxLen at hm
  by_cases h : t.size = 32
  · rw [decide_eq_true h]
    have d1 : ((t.size : Int) == 32) = true := beq_iff_eq.2 (by omega)
    go_enter Try.func80, Try.ntmps80
    go_wp2
    go_ret
    exact ⟨rfl, rfl⟩
  · rw [decide_eq_false h]
    have d1 : ((t.size : Int) == 32) = false := beq_eq_false_iff_ne.2 (by omega)
    go_enter Try.func80, Try.ntmps80
    go_wp2
    go_ret
    exact ⟨rfl, rfl⟩
structure KpTy (w : World) (v e : Int) (a : Option Addr) (n c : Nat) (l : List TarV) (g : Nat) (xn xi : ByteArray) (xs : Int) (w' : World) : Prop where
  kp : KpTg w w.heap.size v e a n c l w'
  row : RowV w' g (tgv xn xi xs)
theorem tgv_ne (x y : ByteArray) (z : Int) : tgv x y z ≠ [] := by simp [tgv]
theorem KpTy.start {w w' : World} {v e : Int} {a : Option Addr} {n c : Nat} {l : List TarV} {g : Nat} {xn xi : ByteArray} {xs : Int} (h : Hid (KpTg w w.heap.size v e a n c l w')) (hr : RowV w' g (tgv xn xi xs)) : Hid (KpTy w v e a n c l g xn xi xs w') := ⟨h.out, hr⟩
theorem KpTy.call {w w' w2 : World} {v e : Int} {a : Option Addr} {n c : Nat} {l : List TarV} {g : Nat} {xn xi : ByteArray} {xs : Int} (h : Hid (KpTy w v e a n c l g xn xi xs w')) (hb : Below w'.heap.size w' w2) : Hid (KpTy w v e a n c l g xn xi xs w2) := ⟨(KpTg.call h.out.kp hb).out, h.out.row.below hb (h.out.row.lt (tgv_ne _ _ _))⟩
theorem KpTy.drew {w w' : World} {v e : Int} {a : Option Addr} {n c : Nat} {l : List TarV} {g : Nat} {xn xi : ByteArray} {xs : Int} (h : Hid (KpTy w v e a n c l g xn xi xs w')) : Hid (KpTy w v e a n c l g xn xi xs w'.drew) := ⟨(KpTg.drew h.out.kp).out, h.out.row.drew⟩
theorem KpTy.kpH {w w' : World} {v e : Int} {a : Option Addr} {n c : Nat} {l : List TarV} {g : Nat} {xn xi : ByteArray} {xs : Int} (h : Hid (KpTy w v e a n c l g xn xi xs w')) : Hid (KpTg w w.heap.size v e a n c l w') := h.out.kp
theorem KpTy.four {w w' : World} {v e : Int} {a : Option Addr} {n c : Nat} {l : List TarV} {g : Nat} {xn xi : ByteArray} {xs : Int} (h : Hid (KpTy w v e a n c l g xn xi xs w')) : w'.cell? ⟨g, 0, none⟩ = some (.string xn) ∧ w'.cell? ⟨g, 1, none⟩ = some (.string xi) ∧ w'.cell? ⟨g, 2, none⟩ = some (.int .i64 xs) ∧ w'.cell? ⟨w.heap.size, 2, none⟩ = some (.slice a n c) ∧ Hid (KpTy w v e a n c l g xn xi xs w') := ⟨h.out.row.tg.1, h.out.row.tg.2.1, h.out.row.tg.2.2, h.out.kp.row.rt3.2.2, h⟩
theorem KpTy.five {w w' : World} {v e : Int} {b o k1 : Nat} {n c : Nat} {l : List TarV} {g : Nat} {xn xi zn : ByteArray} {xs : Int} (hr : Hid (True → ∃ h : k1 < l.length, l[k1].nm = zn)) (h : Hid (KpTy w v e (some ⟨b, o, none⟩) n c l g xn xi xs w')) : w'.cell? ⟨g, 0, none⟩ = some (.string xn) ∧ w'.cell? ⟨g, 1, none⟩ = some (.string xi) ∧ w'.cell? ⟨g, 2, none⟩ = some (.int .i64 xs) ∧ w'.cell? ⟨w.heap.size, 2, none⟩ = some (.slice (some ⟨b, o, none⟩) n c) ∧ w'.cell? ⟨b, o + k1 * 3, none⟩ = some (.string zn) ∧ Hid (KpTy w v e (some ⟨b, o, none⟩) n c l g xn xi xs w') := by
  obtain ⟨hi, rfl⟩ := hr.out trivial
  obtain ⟨b', o', h1, h2, h3, h4⟩ := h.out.kp.tg k1 hi
  injection h1 with h1
  injection h1 with e1 e2
  subst e1 e2
  exact ⟨h.out.row.tg.1, h.out.row.tg.2.1, h.out.row.tg.2.2, h.out.kp.row.rt3.2.2, h2, h⟩
end Go.Proofs.Ytdfglpbappeoaaa
