/- The bytes of what is signed, on the specification's side. The bytes of a link, on the specification's side. Right versions, times, kinds and links, on the program's side. putNums of the program: the bytes of numbers, one behind the other; slices that are built of numbers; LinkBytes of the program. What is signed, on the program's side: is it right, and its bytes. -/
import Derived.Test.YtmahpmjkejnkfaaDoorMetS
import Derived.Test.YtmahpmjkejnkfaaDoorMet
import Derived.Test.YtmahpmjkejnkfaaDoorPutT
import Derived.Test.YtmahpmjkejnkfaaDoorSRow
import Derived.Deep.RegionHeld3
import Derived.Test.YtmahpmjkejnkfaaDoorMetB
import Derived.Great.BuildSlice
import Derived.Great.FillDense
import Derived.Test.YtmahpmjkejnkfaaDoorBld
namespace Go.Proofs.YtmahpmjkejnkfaaDoor
open Go.RowKit
set_option linter.unusedVariables false

def putSg (t : ByteArray) (x : SigV) : ByteArray := ((t ++ putS x.k) ++ putS x.e) ++ putS x.s
def putSgs (t : ByteArray) (l : List SigV) : ByteArray := l.foldl putSg t
def signedT (t : ByteArray) (l : List SigV) : ByteArray := putSgs ((⟨#[83]⟩ ++ putT t) ++ putS (l.length : Int)) l
def signedBy (t : ByteArray) (l : List SigV) : ByteArray := if signedB t l then signedT t l else ⟨#[]⟩
theorem putSgs_step {t : ByteArray} {l : List SigV} {i : Nat} (h : i < l.length) : putSgs t (l.drop i) = putSgs (putSg t l[i]) (l.drop (i + 1)) := by
  rw [List.drop_eq_getElem_cons h]; rfl
theorem putSgs_end {t : ByteArray} {l : List SigV} : putSgs t (l.drop l.length) = t := by rw [List.drop_of_length_le (Nat.le_refl _)]; rfl
theorem putT_size {t : ByteArray} (h : t.size ≤ 20000) : (putT t).size ≤ 20010 := by
  unfold putT
  rw [if_neg (by omega), ByteArray.size_append]
  have := putS_size (t.size : Int)
  omega
theorem signedB_of {t : ByteArray} {l : List SigV} (h : signedB t l = true) : t.size ≤ 8000 ∧ l.length ≤ 16 := by
  unfold signedB at h
  rw [Bool.and_eq_true, decide_eq_true_eq] at h
  exact h.1
theorem KpSg.sig {w w' : World} {g b o i : Nat} {t : ByteArray} {n c : Nat} {l : List SigV} {z0 z1 z2 : Int} (hr : Hid (∃ h : i < l.length, l[i].k = z0 ∧ l[i].e = z1 ∧ l[i].s = z2)) (h : Hid (KpSg w g t (some ⟨b, o, none⟩) n c l w')) :
    w'.cell? ⟨g, 1, none⟩ = some (.slice (some ⟨b, o, none⟩) n c) ∧ w'.cell? ⟨b, o + i * 3, none⟩ = some (.int .i64 z0) ∧ w'.cell? ⟨b, o + i * 3 + 1, none⟩ = some (.int .i64 z1) ∧ w'.cell? ⟨b, o + i * 3 + 2, none⟩ = some (.int .i64 z2) ∧ Hid (KpSg w g t (some ⟨b, o, none⟩) n c l w') := by
  obtain ⟨hi, rfl, rfl, rfl⟩ := hr.out
  obtain ⟨b', o', h1, h2, h3, h4⟩ := h.out.sg i hi
  injection h1 with h1
  injection h1 with e1 e2
  subst e1 e2
  exact ⟨h.out.row.sg.2, h2, h3, h4, h⟩
end Go.Proofs.YtmahpmjkejnkfaaDoor
namespace Go.Proofs.YtmahpmjkejnkfaaDoor
open Go.RowKit
set_option linter.unusedVariables false

def kindB (k : Int) : ByteArray := if k = 2 then ⟨#[80]⟩ else if k = 3 then ⟨#[77]⟩ else ⟨#[]⟩
def lkv (v e x : Int) : List Value := [.int .i64 v, .int .i64 e, .int .i64 x]
theorem RowV.lk {w : World} {g : Nat} {v e x : Int} (h : RowV w g (lkv v e x)) : w.cell? ⟨g, 0, none⟩ = some (.int .i64 v) ∧ w.cell? ⟨g, 1, none⟩ = some (.int .i64 e) ∧ w.cell? ⟨g, 2, none⟩ = some (.int .i64 x) := ⟨h.cell (k := 0) rfl, h.cell (k := 1) rfl, h.cell (k := 2) rfl⟩
theorem lkv_ne (v e x : Int) : lkv v e x ≠ [] := by simp [lkv]
def linkB (v e x : Int) : Bool := verB v && (timB e && verB x)
def linkBy (k v e x : Int) : ByteArray := if (k = 2 ∨ k = 3) ∧ linkB v e x = true then ((kindB k ++ putS v) ++ putS e) ++ putS x else ⟨#[]⟩
structure KpLk (w : World) (g : Nat) (v e x : Int) (w' : World) : Prop where
  below : Below w.heap.size w w'
  row : RowV w' g (lkv v e x)
theorem KpLk.start {w w' : World} {g : Nat} {v e x : Int} (h1 : Below w.heap.size w w') (h2 : RowV w' g (lkv v e x)) : Hid (KpLk w g v e x w') := ⟨h1, h2⟩
theorem KpLk.call {w w' w2 : World} {g : Nat} {v e x : Int} (h : Hid (KpLk w g v e x w')) (hb : Below w'.heap.size w' w2) : Hid (KpLk w g v e x w2) := ⟨h.out.below.trans (hb.mono h.out.below.size), h.out.row.below hb (h.out.row.lt (lkv_ne _ _ _))⟩
theorem KpLk.drew {w w' : World} {g : Nat} {v e x : Int} (h : Hid (KpLk w g v e x w')) : Hid (KpLk w g v e x w'.drew) := ⟨h.out.below.drew, h.out.row.drew⟩
theorem KpLk.three {w w' : World} {g : Nat} {v e x : Int} (h : Hid (KpLk w g v e x w')) : w'.cell? ⟨g, 0, none⟩ = some (.int .i64 v) ∧ w'.cell? ⟨g, 1, none⟩ = some (.int .i64 e) ∧ w'.cell? ⟨g, 2, none⟩ = some (.int .i64 x) ∧ Hid (KpLk w g v e x w') := ⟨h.out.row.lk.1, h.out.row.lk.2.1, h.out.row.lk.2.2, h⟩
end Go.Proofs.YtmahpmjkejnkfaaDoor
namespace Go.Proofs.YtmahpmjkejnkfaaDoor
open Go.RowKit
set_option linter.unusedVariables false

end Go.Proofs.YtmahpmjkejnkfaaDoor
namespace Go.Proofs.YtmahpmjkejnkfaaDoor
open Go.RowKit
set_option linter.unusedVariables false

def ivs (l : List Int) : List Value := l.map (Value.int .i64)
theorem RowV.ai {w : World} {g : Nat} {l : List Int} (h : RowV w g (ivs l)) : AI w (some ⟨g, 0, none⟩) l := fun k hk => ⟨g, 0, rfl, by rw [Nat.zero_add]; exact h.cell (by unfold ivs; rw [List.getElem?_map, List.getElem?_eq_getElem hk]; rfl)⟩
theorem wpList_build2 {ops : Array Oper} {rest : List Oper} {o : Oper} {a : Act} {w : World} {Q : Exit → Act → World → Prop} (hg : o.guard = none) (x0 x1 : Operand)
    (ho : o.op = .buildSlice 22 2 #[(0, x0), (1, x1)]) (v0 v1 : Int) (e0 : a.eval x0 = .int .i64 v0) (e1 : a.eval x1 = .int .i64 v1)
    (h : ∀ w', AI w' (some ⟨w.heap.size, 0, none⟩) [v0, v1] → Below w.heap.size w w' → wpList Tryd.prog ops Q rest (a.put o.dst (.slice (some ⟨w.heap.size, 0, none⟩) 2 2)) w') : wpList Tryd.prog ops Q (o :: rest) a w := by
  obtain ⟨i0, hi, hz0, hz1, hz2⟩ := info_parts Tryd.infoNum
  refine wpList_buildSlice hg 22 2 2 _ ho (ivs [v0, v1]).toArray i0 (.int .i64 0) Tryd.underlying22 hi hz0 (by rw [hz1]; omega) (by rw [hz1]; omega) ?_ (h _ (RowV.ai (RowV.new w (ivs [v0, v1]) 2)) ((Below.refl _ _).alloc (Nat.le_refl _) _))
  rw [hz1]
  simp only [List.map_toArray, List.map, e0, e1]
  exact Great.fill_flat (ivs [v0, v1]) _ (fun v hv => by simp [ivs] at hv; rcases hv with h | h <;> (rw [h]; rfl)) (by simp [ivs])
theorem wpList_build3 {ops : Array Oper} {rest : List Oper} {o : Oper} {a : Act} {w : World} {Q : Exit → Act → World → Prop} (hg : o.guard = none) (x0 x1 x2 : Operand)
    (ho : o.op = .buildSlice 22 3 #[(0, x0), (1, x1), (2, x2)]) (v0 v1 v2 : Int) (e0 : a.eval x0 = .int .i64 v0) (e1 : a.eval x1 = .int .i64 v1) (e2 : a.eval x2 = .int .i64 v2)
    (h : ∀ w', AI w' (some ⟨w.heap.size, 0, none⟩) [v0, v1, v2] → Below w.heap.size w w' → wpList Tryd.prog ops Q rest (a.put o.dst (.slice (some ⟨w.heap.size, 0, none⟩) 3 3)) w') : wpList Tryd.prog ops Q (o :: rest) a w := by
  obtain ⟨i0, hi, hz0, hz1, hz2⟩ := info_parts Tryd.infoNum
  refine wpList_buildSlice hg 22 2 3 _ ho (ivs [v0, v1, v2]).toArray i0 (.int .i64 0) Tryd.underlying22 hi hz0 (by rw [hz1]; omega) (by rw [hz1]; omega) ?_ (h _ (RowV.ai (RowV.new w (ivs [v0, v1, v2]) 2)) ((Below.refl _ _).alloc (Nat.le_refl _) _))
  rw [hz1]
  simp only [List.map_toArray, List.map, e0, e1, e2]
  exact Great.fill_flat (ivs [v0, v1, v2]) _ (fun v hv => by simp [ivs] at hv; rcases hv with h | h | h <;> (rw [h]; rfl)) (by simp [ivs])
theorem wpList_build3G {ops : Array Oper} {rest : List Oper} {o : Oper} {a : Act} {w : World} {Q : Exit → Act → World → Prop} (hg : o.guard = none) (x0 x1 x2 : Operand)
    (ho : o.op = .buildSlice 22 3 #[(0, x0), (1, x1), (2, x2)]) (v0 v1 v2 : Int) (e0 : a.eval x0 = .int .i64 v0) (e1 : a.eval x1 = .int .i64 v1) (e2 : a.eval x2 = .int .i64 v2) (G : Nat) (hG : w.heap.size = G)
    (h : ∀ w', AI w' (some ⟨G, 0, none⟩) [v0, v1, v2] → Below w.heap.size w w' → wpList Tryd.prog ops Q rest (a.put o.dst (.slice (some ⟨G, 0, none⟩) 3 3)) w') : wpList Tryd.prog ops Q (o :: rest) a w := by
  subst hG
  exact wpList_build3 hg x0 x1 x2 ho v0 v1 v2 e0 e1 e2 h
theorem wpList_build2G {ops : Array Oper} {rest : List Oper} {o : Oper} {a : Act} {w : World} {Q : Exit → Act → World → Prop} (hg : o.guard = none) (x0 x1 : Operand)
    (ho : o.op = .buildSlice 22 2 #[(0, x0), (1, x1)]) (v0 v1 : Int) (e0 : a.eval x0 = .int .i64 v0) (e1 : a.eval x1 = .int .i64 v1) (G : Nat) (hG : w.heap.size = G)
    (h : ∀ w', AI w' (some ⟨G, 0, none⟩) [v0, v1] → Below w.heap.size w w' → wpList Tryd.prog ops Q rest (a.put o.dst (.slice (some ⟨G, 0, none⟩) 2 2)) w') : wpList Tryd.prog ops Q (o :: rest) a w := by
  subst hG
  exact wpList_build2 hg x0 x1 ho v0 v1 e0 e1 h
theorem putKs_app (t u : ByteArray) (ks : List Int) : t ++ putKs u ks = putKs (t ++ u) ks := by
  induction ks generalizing u with
  | nil => rfl
  | cons k ks ih => show t ++ putKs (u ++ putS k) ks = putKs ((t ++ u) ++ putS k) ks; rw [ih, ByteArray.append_assoc]
theorem putKs_cons (t : ByteArray) (k : Int) (ks : List Int) : putKs t (k :: ks) = putKs (t ++ putS k) ks := rfl
theorem putKs_nil (t : ByteArray) : putKs t [] = t := rfl
theorem putKs_size (t : ByteArray) (ks : List Int) : (putKs t ks).size ≤ t.size + 10 * ks.length := by
  induction ks generalizing t with
  | nil => exact Nat.le_refl _
  | cons k ks ih =>
    rw [putKs_cons]
    have := ih (t ++ putS k)
    rw [ByteArray.size_append] at this
    have := putS_size k
    rw [List.length_cons]
    omega
theorem bytes_nil_app (t : ByteArray) : (⟨#[]⟩ : ByteArray) ++ t = t := ByteArray.empty_append
theorem app_nil (t : ByteArray) : t ++ (⟨#[]⟩ : ByteArray) = t := ByteArray.append_empty
structure KpAI (w : World) (a : Option Addr) (ks : List Int) (w' : World) : Prop where
  below : Below w.heap.size w w'
  ai : AI w' a ks
theorem KpAI.call {w w' w2 : World} {a : Option Addr} {ks : List Int} (h : Hid (KpAI w a ks w')) (hb : Below w'.heap.size w' w2) : Hid (KpAI w a ks w2) := ⟨h.out.below.trans (hb.mono h.out.below.size), h.out.ai.below hb⟩
end Go.Proofs.YtmahpmjkejnkfaaDoor
namespace Go.Proofs.YtmahpmjkejnkfaaDoor
open Go.RowKit
set_option linter.unusedVariables false

set_option maxRecDepth 100000 in
set_option maxHeartbeats 2000000 in
theorem implSigned (t : ByteArray) (a : Option Addr) (c n : Nat) (l : List SigV) (w : World) (hn : l.length = n) (h : SgsAt w a l) (hnm : n ≤ maxLen) (hts : t.size ≤ maxLen) (hw : ∀ x ∈ l, x.w) :
    Calls Tryd.prog 27 #[.agg #[.string t, .slice a n c]] w fun r w' => r = .returned (.bool (signedB t l)) ∧ Below w.heap.size w w' := by
  unfold maxLen at hnm hts
  have HN : Hid (l.length = n) := hn
  have HA : Hid (SgsAt w a l) := h
  have HW : Hid (∀ x ∈ l, x.w) := hw
  have HR : Hid (¬ (t.size ≤ 8000 ∧ l.length ≤ 16) → signedB t l = false) := fun h => by unfold signedB; rw [decide_eq_false h]; rfl
  have HR2 : Hid ((t.size ≤ 8000 ∧ l.length ≤ 16) → signedB t l = l.all SigV.ok) := fun h => by unfold signedB; rw [decide_eq_true h]; rfl
  obtain ⟨R, hRR⟩ : ∃ R, signedB t l = R := ⟨_, rfl⟩
  rw [hRR] at HR HR2 ⊢
  clear h hn hw hRR
  by_cases c1 : 8000 < t.size
  · have d1 : decide ((8000 : Int) < (t.size : Int)) = true := decide_eq_true (by omega)
    have HF : Hid (R = false) := HR.out (by omega)
    go_enter Tryd.func27, Tryd.ntmps27
    go_wp2_with (first
      | (with_reducible refine wpList_boxV (w := w) (by with_unfolding_all rfl) 35 (.tmp 0) (by with_unfolding_all rfl) (sgv t a n c) (by with_unfolding_all rfl) ?_; intro w1 hA1 hB1 hS1; obtain ⟨p0, p1⟩ := hA1.sg; clear hS1))
    go_ret
    exact ⟨retY HF.out.symm, hB1⟩
  have d1 : decide ((8000 : Int) < (t.size : Int)) = false := decide_eq_false (by omega)
  by_cases c2 : 16 < n
  · have d2 : decide ((16 : Int) < (n : Int)) = true := decide_eq_true (by omega)
    have HF : Hid (R = false) := HR.out (by rw [HN.out]; omega)
    go_enter Tryd.func27, Tryd.ntmps27
    go_wp2_with (first
      | (with_reducible refine wpList_boxV (w := w) (by with_unfolding_all rfl) 35 (.tmp 0) (by with_unfolding_all rfl) (sgv t a n c) (by with_unfolding_all rfl) ?_; intro w1 hA1 hB1 hS1; obtain ⟨p0, p1⟩ := hA1.sg; clear hS1))
    go_ret
    exact ⟨retY HF.out.symm, hB1⟩
  have d2 : decide ((16 : Int) < (n : Int)) = false := decide_eq_false (by omega)
  have HK : Hid (R = l.all SigV.ok) := HR2.out (by rw [HN.out]; omega)
  clear HR HR2
  go_enter Tryd.func27, Tryd.ntmps27
  go_wp2_with (first
    | (with_reducible refine wpList_boxV (w := w) (by with_unfolding_all rfl) 35 (.tmp 0) (by with_unfolding_all rfl) (sgv t a n c) (by with_unfolding_all rfl) ?_; intro w1 hA1 hB1 hS1; obtain ⟨p0, p1⟩ := hA1.sg; clear hS1))
  have HS := KpSg.start HA hB1 hA1
  clear hA1 hB1 p0 p1 HA d1 d2
  go_loopw [18] (fun vi wr => ∃ k : Nat, vi = .int .i64 (k : Int) ∧ k ≤ n ∧ Hid (∀ j (hj : j < l.length), j < k → l[j].ok = true) ∧ Hid (KpSg w w.heap.size t a n c l wr)) (fun vi _ => n - (intOf vi).toNat)
  case atStart => exact ⟨0, rfl, Nat.zero_le _, fun j hj h0 => absurd h0 (Nat.not_lt_zero _), HS⟩
  case round =>
    clear HS
    obtain ⟨k, rfl, hk, HT, HS⟩ := hrel
    obtain ⟨p0, p1⟩ := HS.out.row.sg
    by_cases hlt : k < n
    case neg =>
      obtain rfl : k = n := by omega
      have HF : Hid (R = true) := by show _ = _; rw [HK.out]; exact sigs_yes (fun j hj => HT.out j hj (by have := HN.out; omega))
      go_wp2
      go_ret
      exact ⟨retY HF.out.symm, HS.out.below⟩
    have hkl : k < l.length := by have := HN.out; omega
    obtain ⟨b, o, rfl, hc0, hc1, hc2⟩ := HS.out.sg k hkl
    obtain ⟨x1, x2, x3⟩ := HW.out l[k] (List.getElem_mem hkl)
    have lk : (k : Int) < n := by omega
    have l0 : (0 : Int) ≤ k := by omega
    have hG : ∀ w0, Calls Tryd.prog 43 #[.agg #[.int .i64 l[k].k, .int .i64 l[k].e, .int .i64 l[k].s]] w0 fun r w' => r = .returned (.bool l[k].ok) ∧ Below w0.heap.size w0 w' := fun w0 => implSigR l[k].k l[k].e l[k].s w0 x1
    have HYes : Hid (l[k].ok = true → ∀ j (hj : j < l.length), j < k + 1 → l[j].ok = true) := fun h j hj hjk => by
      by_cases hjk2 : j < k
      · exact HT.out j hj hjk2
      · obtain rfl : j = k := by omega
        exact h
    have HNo : Hid (l[k].ok = false → R = false) := fun h => by rw [HK.out]; exact sigs_no hkl h
    obtain ⟨ob, hob⟩ : ∃ ob, l[k].ok = ob := ⟨_, rfl⟩
    rw [hob] at hG HYes HNo
    generalize l[k].k = z0 at *
    generalize l[k].e = z1 at *
    generalize l[k].s = z2 at *
    clear hob x1 x2 x3 HT
    cases ob with
    | false =>
      as_aux_lemma =>
      have HF : Hid (R = false) := HNo.out rfl
      clear HYes HNo
      go_wp2_with (go_at_call 43; with_reducible refine (hG _).mono ?_; rintro r w5 ⟨rfl, hB5⟩; have HS5 := KpSg.call (KpSg.call HS (below_alloc _ _)) hB5)
      go_ret
      exact ⟨retY HF.out.symm, HS5.out.below⟩
    | true =>
      as_aux_lemma =>
      have HT2 : Hid (∀ j (hj : j < l.length), j < k + 1 → l[j].ok = true) := HYes.out rfl
      clear HYes HNo
      go_wp2_with (go_at_call 43; with_reducible refine (hG _).mono ?_; rintro r w5 ⟨rfl, hB5⟩; have HS5 := KpSg.call (KpSg.call HS (below_alloc _ _)) hB5)
      go_roundw
      case rel => exact ⟨k + 1, by go_num, by omega, HT2, HS5⟩
      case measure => simp [intOf]; omega
end Go.Proofs.YtmahpmjkejnkfaaDoor
