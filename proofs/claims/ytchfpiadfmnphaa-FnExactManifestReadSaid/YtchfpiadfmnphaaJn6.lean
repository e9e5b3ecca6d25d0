/- Rows of Label that a call owns, and appends to. What the laws' marks do of rows of Label: cell by cell; are they held? -/
import Derived.Test.YtchfpiadfmnphaaLabA
import Derived.Test.YtchfpiadfmnphaaMrkW
import Derived.Maps.AppendAt
import Derived.Great.BuildSlice
import Derived.Great.FillDense

namespace Go.Proofs.Ytchfpiadfmnphaa
open Go.RowKit
set_option linter.unusedVariables false

def LabO (w : World) (base : Nat) (v : Value) (l : List LabV) : Prop := w.ownsRow base 71 2 v l.length (labL l).flatten
theorem LabO.row {w : World} {base n c : Nat} {a : Option Addr} {l : List LabV} (h : LabO w base (.slice a n c) l) : VR w a (labL l).flatten ∧ (∀ ad, a = some ad → base ≤ ad.block ∧ ad.block < w.heap.size) ∧ n = l.length := by
  rcases h.2 with ⟨h0, hn⟩ | ⟨g, cap, cur, hv, hbg, hg, h1, h2, h3, h4⟩
  · injection h0 with e1 e2 e3
    subst e1
    have : l = [] := List.eq_nil_of_length_eq_zero hn
    subst this
    exact ⟨fun hl => absurd rfl hl, fun ad e => (by cases e), e2⟩
  · injection hv with e1 e2 e3
    subst e1 e2
    have h' : w.ownsRow base 71 2 (.slice (some ⟨g, 0, none⟩) l.length c) l.length (labL l).flatten := h
    have hlen : (labL l).flatten.length = l.length * 2 := by rw [flatS_len (labL l) (labL_all l), labL_len]
    refine ⟨fun _ => ⟨g, rfl, ⟨fun j v hv => ?_, fun j hj => ?_⟩⟩, fun ad e => (by injection e with e; rw [← e]; exact ⟨hbg, (Array.getElem?_eq_some_iff.1 hg).1⟩), rfl⟩
    · have hj : j < l.length * 2 := by have := (List.getElem?_eq_some_iff.1 hv).1; rw [hlen] at this; exact this
      rw [Nat.zero_add, World.ownsRow.cellAt h' j hj, hv]
    · have hj2 : j < l.length * 2 := by rw [hlen] at hj; exact hj
      rw [Nat.zero_add, World.ownsRow.cellAt h' j hj2]
      have hjl : j < (labL l).flatten.length := by rw [hlen]; exact hj2
      rw [List.getElem?_eq_getElem hjl]
      exact ⟨rfl, h'.frozenAt j⟩
theorem VR.lab {w : World} {a : Option Addr} {l : List LabV} (h : VR w a (labL l).flatten) : LabAt w a l := fun i hi => by
  obtain ⟨g, rfl, hr⟩ := h (fun e => by have := congrArg List.length e; rw [flatS_len (labL l) (labL_all l), labL_len] at this; simp at this; omega)
  exact hr.lab i hi
theorem LabO.form {w : World} {base : Nat} {v : Value} {l : List LabV} (h : LabO w base v l) : ∃ a n c, l.length = n ∧ v = .slice a n c := by
  rcases h.2 with ⟨h0, hn⟩ | ⟨g, cap, cur, hv, hbg, hg, h1, h2, h3, h4⟩
  · exact ⟨none, 0, 0, hn, h0⟩
  · exact ⟨some ⟨g, 0, none⟩, _, cap, rfl, hv⟩
theorem wp_buildLab {o : Oper} {a : Act} {w : World} {K : Act → World → Prop} {Q : Exit → Act → World → Prop} (x : Operand) (ho : o.op = .buildSlice 29 1 #[(0, x)]) (x0 : ByteArray) (x1 : ByteArray) (e0 : a.eval x = .agg #[.string x0, .string x1])
    (h : ∀ w', RowV w' w.heap.size (labv x0 x1) → Below w.heap.size w w' → K (a.put o.dst (.slice (some ⟨w.heap.size, 0, none⟩) 1 1)) w') : o.wp Try.prog a w K Q := by
  obtain ⟨i0, hi, hz0, hz1, hz2⟩ := info_parts Try.infLab
  refine wp_buildSlice 29 71 1 _ ho (labv x0 x1).toArray i0 _ Try.underlying29 hi hz0 (by rw [hz1]; omega) (by rw [hz1]; omega) ?_ (h _ (RowV.new w (labv x0 x1) 71) (below_alloc _ _))
  rw [hz1]
  simp only [List.map_toArray, List.map, e0]
  kernel_rfl
theorem wp_appendLab {W : World} {o : Oper} {a : Act} {K : Act → World → Prop} {Q : Exit → Act → World → Prop} (s x : Operand) (ho : o.op = .call { callee := .builtin .append, args := #[s, x], argTypes := #[29, 29] })
    (base : Nat) (v : Value) (l : List LabV) (y : LabV) (hs : a.eval s = v) (hown : LabO W base v l) (B : Nat) (hx : a.eval x = .slice (some ⟨B, 0, none⟩) 1 1) (hB : RowV W B (labv y.ky y.vl)) (hn : l.length ≤ 1000) (hbase : base ≤ W.heap.size)
    (h : ∀ v' w', LabO w' base v' (l ++ [y]) → W.grownBy w' v.ownBlock → (v'.ownBlock = v.ownBlock ∨ v'.ownBlock = some W.heap.size) → K (a.put o.dst v') w') : Oper.wp Try.prog o a W K Q := by
  obtain ⟨i0, hi, hz0, hz1, hz2⟩ := info_parts Try.infLab
  obtain ⟨v', w', hr, h2, h3, h4, h5⟩ := run_append_own_at (P := Try.prog) W base 29 o.type 71 i0 _ 2 32 Try.underlying29 hi hz0 hz1 hz2 rfl (by decide) v l.length (labL l).flatten hown ⟨B, 0, none⟩ 1 1 (labv y.ky y.vl) rfl
    (fun j u hj => by rw [Addr.add_lit]; have := hB.rng j u hj; exact this) (labv_one _ _) (by unfold maxLen; omega) (by omega) hbase
  unfold Oper.wp execOp
  simp only [ho, resolve, invoke, builtin, Sem.run_bind, Sem.run_pure, Result.andThen_ok, List.map_toArray, List.map_cons, List.map_nil, hs, hx, hr]
  refine h v' w' ?_ h3 h5
  unfold LabO
  have ea : (labL (l ++ [y])).flatten = (labL l).flatten ++ (labL [y]).flatten := by unfold labL; rw [List.map_append, List.flatten_append]
  rw [ea, List.length_append]
  have e : (labL [y]).flatten = labv y.ky y.vl := by unfold labL; simp
  rw [e]
  exact h2
theorem wpList_buildLab {ops : Array Oper} {rest : List Oper} {o : Oper} {a : Act} {w : World} {Q : Exit → Act → World → Prop} (hg : o.guard = none) (x : Operand) (ho : o.op = .buildSlice 29 1 #[(0, x)]) (x0 : ByteArray) (x1 : ByteArray) (e0 : a.eval x = .agg #[.string x0, .string x1])
    (h : ∀ w', RowV w' w.heap.size (labv x0 x1) → Below w.heap.size w w' → wpList Try.prog ops Q rest (a.put o.dst (.slice (some ⟨w.heap.size, 0, none⟩) 1 1)) w') : wpList Try.prog ops Q (o :: rest) a w :=
  wpList_plain hg fun _ hK => wp_buildLab x ho x0 x1 e0 (fun w' h1 h2 => hK _ _ (h w' h1 h2))
theorem wpList_appendLab {ops : Array Oper} {rest : List Oper} {W : World} {o : Oper} {a : Act} {Q : Exit → Act → World → Prop} (hg : o.guard = none) (s x : Operand) (ho : o.op = .call { callee := .builtin .append, args := #[s, x], argTypes := #[29, 29] })
    (base : Nat) (v : Value) (l : List LabV) (y : LabV) (hs : a.eval s = v) (hown : LabO W base v l) (B : Nat) (hx : a.eval x = .slice (some ⟨B, 0, none⟩) 1 1) (hB : RowV W B (labv y.ky y.vl)) (hn : l.length ≤ 1000) (hbase : base ≤ W.heap.size)
    (h : ∀ v' w', LabO w' base v' (l ++ [y]) → W.grownBy w' v.ownBlock → (v'.ownBlock = v.ownBlock ∨ v'.ownBlock = some W.heap.size) → wpList Try.prog ops Q rest (a.put o.dst v') w') : wpList Try.prog ops Q (o :: rest) a W :=
  wpList_plain hg fun _ hK => wp_appendLab s x ho base v l y hs hown B hx hB hn hbase (fun v' w' h1 h2 h3 => hK _ _ (h v' w' h1 h2 h3))
end Go.Proofs.Ytchfpiadfmnphaa
namespace Go.Proofs.Ytchfpiadfmnphaa
open Go.RowKit
set_option linter.unusedVariables false

def mkLabAt (k0 j : Nat) : Value := if j % 2 = 0 then .string (mkT (k0 + j)) else .string (mkT (k0 + j))
def mkLabC (k0 m : Nat) : List Value := (List.range m).map (mkLabAt k0)
theorem mkLabC_len (k0 m : Nat) : (mkLabC k0 m).length = m := by unfold mkLabC; rw [List.length_map, List.length_range]
theorem mkLabC_set (k0 : Nat) (L : List Value) {j : Nat} (h : j < L.length) : mkLabC k0 (j + 1) ++ L.drop (j + 1) = (mkLabC k0 j ++ L.drop j).set j (mkLabAt k0 j) := by
  have e : mkLabC k0 (j + 1) = mkLabC k0 j ++ [mkLabAt k0 j] := by unfold mkLabC; rw [List.range_succ, List.map_append]; rfl
  rw [e, List.set_append, if_neg (by rw [mkLabC_len]; omega), mkLabC_len, Nat.sub_self, List.append_assoc]
  congr 1
  rw [List.drop_eq_getElem_cons h]
  rfl
theorem mkLabC_get {k0 m j : Nat} (h : j < m) : (mkLabC k0 m)[j]? = some (mkLabAt k0 j) := by unfold mkLabC; simp [h]
theorem mkLabC_ne {k0 m : Nat} {L : List Value} (h : L ≠ []) (hm : m ≤ L.length) : mkLabC k0 m ++ L.drop m ≠ [] := by
  intro e
  have := congrArg List.length e
  rw [List.length_append, mkLabC_len, List.length_drop] at this
  cases L with
  | nil => exact h rfl
  | cons x l => simp at this; omega
theorem mkLabC_len2 {k0 m : Nat} {L : List Value} (hm : m ≤ L.length) : (mkLabC k0 m ++ L.drop m).length = L.length := by rw [List.length_append, mkLabC_len, List.length_drop]; omega
theorem mkLabC_k (k0 j : Nat) (h : j % 2 = 0) : mkLabAt k0 j = .string (mkT (k0 + j)) ∧ mkLabAt k0 (j + 1) = .string (mkT (k0 + (j + 1))) := by
  unfold mkLabAt
  exact ⟨if_pos (by omega), (if_neg (by omega)).trans (rfl)⟩
set_option maxRecDepth 100000 in
set_option maxHeartbeats 2000000 in
theorem markLabS_some (g c n k0 : Nat) (L : List Value) (w : World) (hL : L.length = 2 * n) (hn0 : 0 < n) (h : RowV w g L) (hn : n ≤ 1100000) (h0 : 1 ≤ k0) (h1 : k0 ≤ 900000000) :
    Calls Try.prog 114 #[.slice (some ⟨g, 0, none⟩) n c, .int .i64 (k0 : Int)] w fun e w' => e = .returned (.int .i64 ((k0 + 2 * n : Nat) : Int)) ∧ RowV w' g (mkLabC k0 (2 * n)) ∧ But g w w' := by
  have hLn : L ≠ [] := by intro e; rw [e] at hL; simp at hL; omega
  have HM : Hid (MkV g (mkLabC k0 0 ++ L.drop 0) w w) := ⟨h, But.refl _ _⟩
  have HL : Hid (L.length = 2 * n) := hL
  clear h hL
  go_enter Try.func114, Try.ntmps114
  go_wp2_with fail
  go_loopw [1, 5] (fun q i wr => ∃ (k z : Nat), i = .int .i64 (k : Int) ∧ q = .int .i64 (z : Int) ∧ Hid (z = k0 + k * 2) ∧ k ≤ n ∧ Hid (MkV g (mkLabC k0 (k * 2) ++ L.drop (k * 2)) w wr)) (fun _ i _ => n - (intOf i).toNat)
  case atStart => exact ⟨0, k0, rfl, rfl, by show _ = _; omega, Nat.zero_le _, HM⟩
  case round =>
    clear HM
    obtain ⟨k, z, rfl, rfl, HZ, hk, HMk⟩ := hrel
    by_cases hlt : k < n
    case neg =>
      obtain rfl : k = n := by omega
      have e3 : mkLabC k0 (k * 2) ++ L.drop (k * 2) = mkLabC k0 (2 * k) := by rw [Nat.mul_comm k 2, ← HL.out, List.drop_length, List.append_nil]
      rw [e3] at HMk
      go_wp2
      go_ret
      exact ⟨by rw [show k0 + 2 * k = z by have := HZ.out; omega]; rfl, HMk.out.row, HMk.out.but⟩
    have lk : (k : Int) < n := by omega
    have l0 : (0 : Int) ≤ k := by omega
    have zb : (z : Int) ≤ 910000000 := by have := HZ.out; omega
    obtain ⟨m0, m1⟩ := mkLabC_k k0 (k * 2) (by omega)
    obtain ⟨z1, hz1⟩ : ∃ y : Int, (z : Int) + 1 = y := ⟨_, rfl⟩
    obtain ⟨z2, hz2⟩ : ∃ y : Int, z1 + 1 = y := ⟨_, rfl⟩
    have Z1 : Hid (z1 = ((z + 1 : Nat) : Int)) := by show _ = _; omega
    have Z2 : Hid (z2 = ((z + 2 : Nat) : Int)) := by show _ = _; omega
    have b1 : 0 ≤ z1 ∧ z1 ≤ 910000001 := by omega
    have hT0 : ∀ w0, Calls Try.prog 144 #[.int .i64 (z : Int)] w0 fun e w' => e = .returned (.string (mkT z)) ∧ Below w0.heap.size w0 w' := fun w0 => mark_any z w0 (by have := HZ.out; omega) (by have := HZ.out; omega)
    have hT1 : ∀ w0, Calls Try.prog 144 #[.int .i64 z1] w0 fun e w' => e = .returned (.string (mkT (z + 1))) ∧ Below w0.heap.size w0 w' := fun w0 => by rw [Z1.out]; exact mark_any (z + 1) w0 (by omega) (by have := HZ.out; omega)
    have J0 : Hid (k * 2 < L.length) := by have := HL.out; show _ < _; omega
    have J1 : Hid (k * 2 + 1 < L.length) := by have := HL.out; show _ < _; omega
    have E0 := hidP (mkLabC_set k0 L J0.out)
    have E1 := hidP (mkLabC_set k0 L J1.out)
    rw [m0, ← HZ.out] at E0
    rw [m1, show k0 + (k * 2 + 1) = z + 1 by have := HZ.out; omega] at E1
    have N0 := hidP (mkLabC_ne (k0 := k0) hLn (Nat.le_of_lt J0.out))
    have N1 := hidP (mkLabC_ne (k0 := k0) hLn (Nat.le_of_lt J1.out))
    have L0 := hidP (Nat.lt_of_lt_of_eq J0.out (mkLabC_len2 (k0 := k0) (Nat.le_of_lt J0.out)).symm)
    have L1 := hidP (Nat.lt_of_lt_of_eq J1.out (mkLabC_len2 (k0 := k0) (Nat.le_of_lt J1.out)).symm)
    generalize mkLabC k0 (k * 2) ++ L.drop (k * 2) = M0 at *
    generalize mkLabC k0 (k * 2 + 1) ++ L.drop (k * 2 + 1) = M1 at *
    generalize mkT z = X0 at *
    generalize mkT (z + 1) = X1 at *
    clear m0 m1
    go_wp2_with (first
      | (go_at_call 144; with_reducible refine (hT0 wr).mono ?_; rintro e wa ⟨rfl, hBa⟩; have HMa := MkV.call HMk N0.out hBa)
      | (refine wpList_cellH (w := wa) (by with_unfolding_all rfl) 9 (.tmp 17) (.tmp 15) (by with_unfolding_all rfl) g (k * 2) M0 M1 (.string X0) (by with_unfolding_all rfl) (by with_unfolding_all rfl) rfl Try.siz1T HMa.out.row L0.out E0.out ?_; intro wb hAb hBb hFb hSb; have HMb := MkV.put HMa hAb (Only.set hBb hFb hSb))
      | (go_at_call 144; with_reducible refine (hT1 wb).mono ?_; rintro e wc ⟨rfl, hBc⟩; have HMc := MkV.call HMb N1.out hBc)
      | (refine wpList_cellH (w := wc) (by with_unfolding_all rfl) 9 (.tmp 25) (.tmp 23) (by with_unfolding_all rfl) g (k * 2 + 1) M1 (mkLabC k0 (k * 2 + 1 + 1) ++ L.drop (k * 2 + 1 + 1)) (.string X1) (by with_unfolding_all rfl) (by with_unfolding_all rfl) rfl Try.siz1T HMc.out.row L1.out E1.out ?_; intro wd hAd hBd hFd hSd; have HMd := MkV.put HMc hAd (Only.set hBd hFd hSd)))
    go_roundw
    case rel => exact ⟨k + 1, z + 2, by go_num, by rw [Z2.out], by have := HZ.out; show _ = _; omega, hlt, by rw [show (k + 1) * 2 = k * 2 + 1 + 1 by omega]; exact HMd⟩
    case measure => simp [intOf]; omega
structure LabH (w : World) (g o : Nat) (X0 : ByteArray) (X1 : ByteArray) (w' : World) : Prop where
  c0 : w'.cell? ⟨g, o, none⟩ = some (.string X0)
  c1 : w'.cell? ⟨g, o + 1, none⟩ = some (.string X1)
  bel : Below w.heap.size w w'
theorem LabH.call {w w' w2 : World} {g o : Nat} {X0 : ByteArray} {X1 : ByteArray} (h : Hid (LabH w g o X0 X1 w')) (hb : Below w'.heap.size w' w2) : Hid (LabH w g o X0 X1 w2) :=
  ⟨(hb.cell (p := ⟨g, o, none⟩) (cellLt h.out.c0)).trans h.out.c0, (hb.cell (p := ⟨g, o + 1, none⟩) (cellLt h.out.c1)).trans h.out.c1, h.out.bel.trans (hb.mono h.out.bel.size)⟩
theorem LabH.drew {w w' : World} {g o : Nat} {X0 : ByteArray} {X1 : ByteArray} (h : Hid (LabH w g o X0 X1 w')) : Hid (LabH w g o X0 X1 w'.drew) := ⟨h.out.c0, h.out.c1, h.out.bel.drew⟩
theorem LabH.all {w w' : World} {g o : Nat} {X0 : ByteArray} {X1 : ByteArray} (h : Hid (LabH w g o X0 X1 w')) : w'.cell? ⟨g, o, none⟩ = some (.string X0) ∧ w'.cell? ⟨g, o + 1, none⟩ = some (.string X1) ∧ Hid (LabH w g o X0 X1 w') := ⟨h.out.c0, h.out.c1, h⟩
set_option maxRecDepth 100000 in
set_option maxHeartbeats 2000000 in
theorem heldLabS_any (a : Option Addr) (c n k0 : Nat) (w : World) (h : VR w a (mkLabC k0 (2 * n))) (hn : n ≤ 1100000) (h0 : 1 ≤ k0) (h1 : k0 ≤ 900000000) :
    Calls Try.prog 116 #[.slice a n c, .int .i64 (k0 : Int)] w fun e w' => e = .returned (.int .i64 ((k0 + 2 * n : Nat) : Int)) ∧ Below w.heap.size w w' := by
  have HV : Hid (VR w a (mkLabC k0 (2 * n))) := h
  clear h
  go_enter Try.func116, Try.ntmps116
  go_wp2_with fail
  go_loopw [1, 5] (fun q i wr => ∃ (k z : Nat), i = .int .i64 (k : Int) ∧ q = .int .i64 (z : Int) ∧ Hid (z = k0 + k * 2) ∧ k ≤ n ∧ Hid (Below w.heap.size w wr)) (fun _ i _ => n - (intOf i).toNat)
  case atStart => exact ⟨0, k0, rfl, rfl, by show _ = _; omega, Nat.zero_le _, Below.refl _ _⟩
  case round =>
    obtain ⟨k, z, rfl, rfl, HZ, hk, HB⟩ := hrel
    by_cases hlt : k < n
    case neg =>
      obtain rfl : k = n := by omega
      go_wp2
      go_ret
      exact ⟨by rw [show k0 + 2 * k = z by have := HZ.out; omega]; rfl, HB.out⟩
    have lk : (k : Int) < n := by omega
    have l0 : (0 : Int) ≤ k := by omega
    have zb : (z : Int) ≤ 910000000 := by have := HZ.out; omega
    obtain ⟨z1, hz1⟩ : ∃ y : Int, (z : Int) + 1 = y := ⟨_, rfl⟩
    obtain ⟨z2, hz2⟩ : ∃ y : Int, z1 + 1 = y := ⟨_, rfl⟩
    have Z1 : Hid (z1 = ((z + 1 : Nat) : Int)) := by show _ = _; omega
    have Z2 : Hid (z2 = ((z + 2 : Nat) : Int)) := by show _ = _; omega
    have b1 : 0 ≤ z1 ∧ z1 ≤ 910000001 := by omega
    have hT0 : ∀ w0, Calls Try.prog 144 #[.int .i64 (z : Int)] w0 fun e w' => e = .returned (.string (mkT z)) ∧ Below w0.heap.size w0 w' := fun w0 => mark_any z w0 (by have := HZ.out; omega) (by have := HZ.out; omega)
    have hT1 : ∀ w0, Calls Try.prog 144 #[.int .i64 z1] w0 fun e w' => e = .returned (.string (mkT (z + 1))) ∧ Below w0.heap.size w0 w' := fun w0 => by rw [Z1.out]; exact mark_any (z + 1) w0 (by omega) (by have := HZ.out; omega)
    obtain ⟨g, rfl, hr⟩ := HV.out (by intro e; have := congrArg List.length e; rw [mkLabC_len] at this; simp at this; omega)
    obtain ⟨m0, m1⟩ := mkLabC_k k0 (k * 2) (by omega)
    have HK : Hid (LabH w g (k * 2) (mkT z) (mkT (z + 1)) wr) := by
      have e0 := hr.cell (k := k * 2) (mkLabC_get (by omega))
      have e1 := hr.cell (k := k * 2 + 1) (mkLabC_get (by omega))
      rw [m0, ← HZ.out] at e0
      rw [m1, show k0 + (k * 2 + 1) = z + 1 by have := HZ.out; omega] at e1
      exact ⟨(HB.out.cell (p := ⟨g, k * 2, none⟩) (cellLt e0)).trans e0, (HB.out.cell (p := ⟨g, k * 2 + 1, none⟩) (cellLt e1)).trans e1, HB.out⟩
    generalize mkT z = X0 at *
    generalize mkT (z + 1) = X1 at *
    have t0 := txt_eq X0
    have t1 := txt_eq X1
    clear m0 m1 hr HB
    go_wp2_with fail
    have HD0 := LabH.drew HK
    clear HK
    go_region_held3 (fun w' => w'.cell? ⟨g, k * 2, none⟩ = some (.string X0) ∧ w'.cell? ⟨g, k * 2 + 1, none⟩ = some (.string X1) ∧ Hid (LabH w g (k * 2) X0 X1 w'))
      (first | exact LabH.all HD0 | exact LabH.all (LabH.call HD0 h4))
      (first | (go_at_call 144; with_reducible refine (hT0 _).mono ?_; rintro e w4 ⟨rfl, h4⟩))
    all_goals
      as_aux_lemma =>
      have HE0 := LabH.call HD0 h4
      clear HD0 h4
      go_wp2_with fail
      have HD1 := LabH.drew HE0
      clear HE0
      go_region_held3 (fun w' => w'.cell? ⟨g, k * 2, none⟩ = some (.string X0) ∧ w'.cell? ⟨g, k * 2 + 1, none⟩ = some (.string X1) ∧ Hid (LabH w g (k * 2) X0 X1 w'))
        (first | exact LabH.all HD1 | exact LabH.all (LabH.call HD1 h5))
        (first | (go_at_call 144; with_reducible refine (hT1 _).mono ?_; rintro e w5 ⟨rfl, h5⟩))
      all_goals
        as_aux_lemma =>
        have HE1 := LabH.call HD1 h5
        clear HD1 h5
        go_wp2
        go_roundw
        case rel => exact ⟨k + 1, z + 2, by go_num, by rw [Z2.out], by have := HZ.out; show _ = _; omega, hlt, HE1.out.bel⟩
        case measure => simp [intOf]; omega
set_option maxRecDepth 100000 in
theorem markLabS_any (a : Option Addr) (c n k0 : Nat) (L : List Value) (w : World) (hL : L.length = 2 * n) (h : VR w a L) (hn : n ≤ 1100000) (h0 : 1 ≤ k0) (h1 : k0 ≤ 900000000) :
    Calls Try.prog 114 #[.slice a n c, .int .i64 (k0 : Int)] w fun e w' => e = .returned (.int .i64 ((k0 + 2 * n : Nat) : Int)) ∧ VR w' a (mkLabC k0 (2 * n)) ∧ MkW a w w' ∧ w.heap.size ≤ w'.heap.size := by
  by_cases hn0 : 0 < n
  · obtain ⟨g, rfl, hr⟩ := h (by intro e; rw [e] at hL; simp at hL; omega)
    refine (markLabS_some g c n k0 L w hL hn0 hr hn h0 h1).mono ?_
    rintro e w' ⟨rfl, h2, h3⟩
    exact ⟨rfl, fun _ => ⟨g, rfl, h2⟩, ⟨fun j hl hx => h3.2 j (hx _ rfl) hl, fun B hB hx => h3.below (hx _ rfl) hB⟩, h3.size⟩
  · obtain rfl : n = 0 := by omega
    clear h hL
    go_enter Try.func114, Try.ntmps114
    go_wp2_with fail
    go_loopw [1, 5] (fun q i wr => q = .int .i64 (k0 : Int) ∧ i = .int .i64 0 ∧ w = wr) (fun _ _ _ => 0)
    case atStart => exact ⟨rfl, rfl, rfl⟩
    case round =>
      obtain ⟨rfl, rfl, rfl⟩ := hrel
      go_wp2
      go_ret
      exact ⟨rfl, fun hl => absurd rfl hl, ⟨fun _ _ _ => rfl, fun _ _ _ => Below.refl _ _⟩, Nat.le_refl _⟩
end Go.Proofs.Ytchfpiadfmnphaa
