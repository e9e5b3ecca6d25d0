/- putNums of the program: the bytes of numbers, one behind the other; slices that are built of numbers; LinkBytes of the program. -/
import Derived.Test.YtdfglpbappeoaaaMetB
import Derived.Test.YtdfglpbappeoaaaMetI
import Derived.Great.BuildSlice
import Derived.Great.FillDense
namespace Go.Proofs.Ytdfglpbappeoaaa
open Go.RowKit
set_option linter.unusedVariables false

def ivs (l : List Int) : List Value := l.map (Value.int .i64)
theorem RowV.ai {w : World} {g : Nat} {l : List Int} (h : RowV w g (ivs l)) : AI w (some ⟨g, 0, none⟩) l := fun k hk => ⟨g, 0, rfl, by rw [Nat.zero_add]; exact h.cell (by unfold ivs; rw [List.getElem?_map, List.getElem?_eq_getElem hk]; rfl)⟩
theorem wpList_build2 {ops : Array Oper} {rest : List Oper} {o : Oper} {a : Act} {w : World} {Q : Exit → Act → World → Prop} (hg : o.guard = none) (x0 x1 : Operand)
    (ho : o.op = .buildSlice 93 2 #[(0, x0), (1, x1)]) (v0 v1 : Int) (e0 : a.eval x0 = .int .i64 v0) (e1 : a.eval x1 = .int .i64 v1)
    (h : ∀ w', AI w' (some ⟨w.heap.size, 0, none⟩) [v0, v1] → Below w.heap.size w w' → wpList Try.prog ops Q rest (a.put o.dst (.slice (some ⟨w.heap.size, 0, none⟩) 2 2)) w') : wpList Try.prog ops Q (o :: rest) a w := by
  obtain ⟨i0, hi, hz0, hz1, hz2⟩ := info_parts Try.infoNum
  refine wpList_buildSlice hg 93 2 2 _ ho (ivs [v0, v1]).toArray i0 (.int .i64 0) Try.underlying93 hi hz0 (by rw [hz1]; omega) (by rw [hz1]; omega) ?_ (h _ (RowV.ai (RowV.new w (ivs [v0, v1]) 2)) ((Below.refl _ _).alloc (Nat.le_refl _) _))
  rw [hz1]
  simp only [List.map_toArray, List.map, e0, e1]
  exact Great.fill_flat (ivs [v0, v1]) _ (fun v hv => by simp [ivs] at hv; rcases hv with h | h <;> (rw [h]; rfl)) (by simp [ivs])
theorem wpList_build3 {ops : Array Oper} {rest : List Oper} {o : Oper} {a : Act} {w : World} {Q : Exit → Act → World → Prop} (hg : o.guard = none) (x0 x1 x2 : Operand)
    (ho : o.op = .buildSlice 93 3 #[(0, x0), (1, x1), (2, x2)]) (v0 v1 v2 : Int) (e0 : a.eval x0 = .int .i64 v0) (e1 : a.eval x1 = .int .i64 v1) (e2 : a.eval x2 = .int .i64 v2)
    (h : ∀ w', AI w' (some ⟨w.heap.size, 0, none⟩) [v0, v1, v2] → Below w.heap.size w w' → wpList Try.prog ops Q rest (a.put o.dst (.slice (some ⟨w.heap.size, 0, none⟩) 3 3)) w') : wpList Try.prog ops Q (o :: rest) a w := by
  obtain ⟨i0, hi, hz0, hz1, hz2⟩ := info_parts Try.infoNum
  refine wpList_buildSlice hg 93 2 3 _ ho (ivs [v0, v1, v2]).toArray i0 (.int .i64 0) Try.underlying93 hi hz0 (by rw [hz1]; omega) (by rw [hz1]; omega) ?_ (h _ (RowV.ai (RowV.new w (ivs [v0, v1, v2]) 2)) ((Below.refl _ _).alloc (Nat.le_refl _) _))
  rw [hz1]
  simp only [List.map_toArray, List.map, e0, e1, e2]
  exact Great.fill_flat (ivs [v0, v1, v2]) _ (fun v hv => by simp [ivs] at hv; rcases hv with h | h | h <;> (rw [h]; rfl)) (by simp [ivs])
theorem wpList_build3G {ops : Array Oper} {rest : List Oper} {o : Oper} {a : Act} {w : World} {Q : Exit → Act → World → Prop} (hg : o.guard = none) (x0 x1 x2 : Operand)
    (ho : o.op = .buildSlice 93 3 #[(0, x0), (1, x1), (2, x2)]) (v0 v1 v2 : Int) (e0 : a.eval x0 = .int .i64 v0) (e1 : a.eval x1 = .int .i64 v1) (e2 : a.eval x2 = .int .i64 v2) (G : Nat) (hG : w.heap.size = G)
    (h : ∀ w', AI w' (some ⟨G, 0, none⟩) [v0, v1, v2] → Below w.heap.size w w' → wpList Try.prog ops Q rest (a.put o.dst (.slice (some ⟨G, 0, none⟩) 3 3)) w') : wpList Try.prog ops Q (o :: rest) a w := by
  subst hG
  exact wpList_build3 hg x0 x1 x2 ho v0 v1 v2 e0 e1 e2 h
theorem wpList_build2G {ops : Array Oper} {rest : List Oper} {o : Oper} {a : Act} {w : World} {Q : Exit → Act → World → Prop} (hg : o.guard = none) (x0 x1 : Operand)
    (ho : o.op = .buildSlice 93 2 #[(0, x0), (1, x1)]) (v0 v1 : Int) (e0 : a.eval x0 = .int .i64 v0) (e1 : a.eval x1 = .int .i64 v1) (G : Nat) (hG : w.heap.size = G)
    (h : ∀ w', AI w' (some ⟨G, 0, none⟩) [v0, v1] → Below w.heap.size w w' → wpList Try.prog ops Q rest (a.put o.dst (.slice (some ⟨G, 0, none⟩) 2 2)) w') : wpList Try.prog ops Q (o :: rest) a w := by
  subst hG
  exact wpList_build2 hg x0 x1 ho v0 v1 e0 e1 h
theorem putKs_app (t u : ByteArray) (ks : List Int) : t ++ putKs u ks = putKs (t ++ u) ks := by
  induction ks generalizing u with
  | nil => rfl
  | cons k ks ih => show t ++ putKs (u ++ putS k) ks = putKs ((t ++ u) ++ putS k) ks; rw [ih, ByteArray.append_assoc]
theorem putKs_cons (t : ByteArray) (k : Int) (ks : List Int) : putKs t (k :: ks) = putKs (t ++ putS k) ks := rfl
theorem putKs_nil (t : ByteArray) : putKs t [] = t := rfl
theorem putKs_size (t : ByteArray) (ks : List Int) : (putKs t ks).size ≤ t.size + 10 * ks.length := by
  induction ks generalizing t with
  | nil => exact Nat.le_refl _
  | cons k ks ih =>
    rw [putKs_cons]
    have := ih (t ++ putS k)
    rw [ByteArray.size_append] at this
    have := putS_size k
    rw [List.length_cons]
    omega
theorem bytes_nil_app (t : ByteArray) : (⟨#[]⟩ : ByteArray) ++ t = t := ByteArray.empty_append
theorem app_nil (t : ByteArray) : t ++ (⟨#[]⟩ : ByteArray) = t := ByteArray.append_empty
structure KpAI (w : World) (a : Option Addr) (ks : List Int) (w' : World) : Prop where
  below : Below w.heap.size w w'
  ai : AI w' a ks
theorem KpAI.call {w w' w2 : World} {a : Option Addr} {ks : List Int} (h : Hid (KpAI w a ks w')) (hb : Below w'.heap.size w' w2) : Hid (KpAI w a ks w2) := ⟨h.out.below.trans (hb.mono h.out.below.size), h.out.ai.below hb⟩
set_option maxRecDepth 100000 in
set_option maxHeartbeats 1000000 in
theorem putNumsI (a : Option Addr) (c n : Nat) (ks : List Int) (w : World) (hn : ks.length = n) (h : AI w a ks) (hb : n ≤ 1000) (hw : ∀ x ∈ ks, I64 x) :
    Calls Try.prog 88 #[.slice a n c] w fun e w' => e = .returned (.string (putKs ⟨#[]⟩ ks)) ∧ Below w.heap.size w w' := by
  have HN : Hid (ks.length = n) := hn
  have HS0 : Hid (KpAI w a ks w) := ⟨Below.refl _ _, h⟩
  have HW : Hid (∀ x ∈ ks, I64 x) := hw
  obtain ⟨R, hRR⟩ : ∃ R, putKs ⟨#[]⟩ ks = R := ⟨_, rfl⟩
  have HF : Hid (R = putKs ⟨#[]⟩ (ks.drop 0)) := hRR.symm
  rw [hRR]
  clear h hn hw hRR
  go_enter Try.func88, Try.ntmps88
  go_wp2_with fail
  go_loopw [3, 8] (fun vt vi wr => ∃ (i : Nat) (T : ByteArray), vi = .int .i64 (i : Int) ∧ vt = .string T ∧ i ≤ n ∧ T.size ≤ 10 * i ∧ Hid (R = putKs T (ks.drop i)) ∧ Hid (KpAI w a ks wr)) (fun _ vi _ => n - (intOf vi).toNat)
  case atStart => exact ⟨0, ⟨#[]⟩, rfl, rfl, Nat.zero_le _, Nat.zero_le _, HF, HS0⟩
  case round =>
    clear HF HS0
    obtain ⟨i, T, rfl, rfl, hi, hTs, HT, HS⟩ := hrel
    by_cases hlt : i < n
    case neg =>
      obtain rfl : i = n := by omega
      have HE : Hid (R = T) := by
        show _ = _
        have := HT.out
        rw [← HN.out, putKs_end] at this
        exact this
      go_wp2
      go_ret
      exact ⟨by rw [HE.out]; rfl, HS.out.below⟩
    have hil : i < ks.length := by have := HN.out; omega
    obtain ⟨b, o, rfl, hc0⟩ := HS.out.ai i hil
    have x1 := HW.out ks[i] (List.getElem_mem hil)
    have HT2 : Hid (R = putKs (T ++ putS ks[i]) (ks.drop (i + 1))) := by show _ = _; rw [HT.out, putKs_step hil]
    generalize ks[i] = z at *
    have hP : ∀ w0, Calls Try.prog 72 #[.int .i64 z] w0 fun r w' => r = .returned (.string (putS z)) ∧ Below w0.heap.size w0 w' := fun w0 => implPut z w0 x1
    have s0 := putS_size z
    generalize putS z = q0 at *
    obtain ⟨T1, hT1⟩ : ∃ T1, T ++ q0 = T1 := ⟨_, rfl⟩
    have t1s : T1.size ≤ 10 * (i + 1) := by rw [← hT1, ByteArray.size_append]; omega
    rw [hT1] at HT2
    have y1 : ¬ 9223372036854775807 < T.size + q0.size := by omega
    have li : (i : Int) < n := by omega
    have l0 : (0 : Int) ≤ i := by omega
    clear x1 hil HT
    go_wp2_with (go_at_call 72; with_reducible refine (hP _).mono ?_; rintro r w8 ⟨rfl, h8⟩; have HS8 := KpAI.call HS h8)
    go_roundw
    case rel => exact ⟨i + 1, T1, by go_num, rfl, by omega, by omega, HT2, HS8⟩
    case measure => simp [intOf]; omega
end Go.Proofs.Ytdfglpbappeoaaa
