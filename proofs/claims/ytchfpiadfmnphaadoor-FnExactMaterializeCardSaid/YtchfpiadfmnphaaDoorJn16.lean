/- The bytes of a link, on the specification's side. Right versions, times, kinds and links, on the program's side. The program's reader of a link. The program's cursor: text, count. Bytes and counts that a cursor reads. Rows of Layer: what lies there; the laws' helpers: how much room they take, turned to the program's, held against others. Rows of Label: what lies there; the laws' helpers: how much room they take, turned to the program's, held against others. Rows of Layer that a call owns, and appends to. Rows of Label that a call owns, and appends to. The specification's reader: num, bytes, first, done. The specification's reader: bytes, first, done. The specification's reader: text, many. Thirty-two bytes, read by the specification's reader. The program's face that reads a whole text: what its deferred function does; readWhole of a link. readWhole of a link, on the program's side. readWhole of a Manifest, on the program's side, whatever was made for it. What the laws' marks do of rows of Layer: cell by cell; are they held? What the laws' marks do of rows of Label: cell by cell; are they held? -/
import Derived.Test.YtchfpiadfmnphaaDoorJn15
import Derived.Test.YtchfpiadfmnphaaDoorJn4
import Derived.Test.YtchfpiadfmnphaaDoorJn10
import Derived.Deep.RegionHeld3
import Derived.Test.YtchfpiadfmnphaaDoorJn12
import Derived.Test.YtchfpiadfmnphaaDoorJn14
import Derived.Test.YtchfpiadfmnphaaDoorJn11
import Derived.Test.YtchfpiadfmnphaaDoorJn13
import Derived.Maps.AppendAt
import Derived.Great.BuildSlice
import Derived.Great.FillDense
import Derived.Test.YtchfpiadfmnphaaDoorTxtS
import Derived.Defers
import Derived.Recover
namespace Go.Proofs.YtchfpiadfmnphaaDoor
open Go.RowKit
set_option linter.unusedVariables false

def kindB (k : Int) : ByteArray := if k = 2 then ⟨#[80]⟩ else if k = 3 then ⟨#[77]⟩ else ⟨#[]⟩
def lkv (v e x : Int) : List Value := [.int .i64 v, .int .i64 e, .int .i64 x]
theorem RowV.lk {w : World} {g : Nat} {v e x : Int} (h : RowV w g (lkv v e x)) : w.cell? ⟨g, 0, none⟩ = some (.int .i64 v) ∧ w.cell? ⟨g, 1, none⟩ = some (.int .i64 e) ∧ w.cell? ⟨g, 2, none⟩ = some (.int .i64 x) := ⟨h.cell (k := 0) rfl, h.cell (k := 1) rfl, h.cell (k := 2) rfl⟩
theorem lkv_ne (v e x : Int) : lkv v e x ≠ [] := by simp [lkv]
def linkB (v e x : Int) : Bool := verB v && (timB e && verB x)
def linkBy (k v e x : Int) : ByteArray := if (k = 2 ∨ k = 3) ∧ linkB v e x = true then ((kindB k ++ putS v) ++ putS e) ++ putS x else ⟨#[]⟩
structure KpLk (w : World) (g : Nat) (v e x : Int) (w' : World) : Prop where
  below : Below w.heap.size w w'
  row : RowV w' g (lkv v e x)
theorem KpLk.start {w w' : World} {g : Nat} {v e x : Int} (h1 : Below w.heap.size w w') (h2 : RowV w' g (lkv v e x)) : Hid (KpLk w g v e x w') := ⟨h1, h2⟩
theorem KpLk.call {w w' w2 : World} {g : Nat} {v e x : Int} (h : Hid (KpLk w g v e x w')) (hb : Below w'.heap.size w' w2) : Hid (KpLk w g v e x w2) := ⟨h.out.below.trans (hb.mono h.out.below.size), h.out.row.below hb (h.out.row.lt (lkv_ne _ _ _))⟩
theorem KpLk.drew {w w' : World} {g : Nat} {v e x : Int} (h : Hid (KpLk w g v e x w')) : Hid (KpLk w g v e x w'.drew) := ⟨h.out.below.drew, h.out.row.drew⟩
theorem KpLk.three {w w' : World} {g : Nat} {v e x : Int} (h : Hid (KpLk w g v e x w')) : w'.cell? ⟨g, 0, none⟩ = some (.int .i64 v) ∧ w'.cell? ⟨g, 1, none⟩ = some (.int .i64 e) ∧ w'.cell? ⟨g, 2, none⟩ = some (.int .i64 x) ∧ Hid (KpLk w g v e x w') := ⟨h.out.row.lk.1, h.out.row.lk.2.1, h.out.row.lk.2.2, h⟩
end Go.Proofs.YtchfpiadfmnphaaDoor
namespace Go.Proofs.YtchfpiadfmnphaaDoor
open Go.RowKit
set_option linter.unusedVariables false

end Go.Proofs.YtchfpiadfmnphaaDoor
namespace Go.Proofs.YtchfpiadfmnphaaDoor
open Go.RowKit
set_option linter.unusedVariables false

theorem i64n {n : Nat} (h : n ≤ 9223372036854775807) : I64 (n : Int) := by
  unfold I64
  simp [Lit.wf, IntKind.min, IntKind.max, IntKind.signed, IntKind.bits]
  omega
def numO (t : ByteArray) (p : Nat) : Option (Int × Nat) := if (getN t p).code = 0 then some ((getN t p).n, (getN t p).behind.toNat) else none
theorem numO_some {t : ByteArray} {p b : Nat} {n : Int} (h : numO t p = some (n, b)) : getN t p = ⟨n, b, 0⟩ ∧ b ≤ t.size ∧ t.size ≤ 20000 := by
  unfold numO at h
  rcases getN_ways t p with ⟨c, hc, hg⟩ | ⟨m, d, hg, h1, h2⟩
  · rw [hg, if_neg hc] at h; cases h
  · rw [hg, if_pos rfl] at h
    have := Option.some.inj h
    injection this with e1 e2
    simp at e1 e2
    subst e1 e2
    exact ⟨hg, h1, h2⟩
theorem numO_none {t : ByteArray} {p : Nat} (h : numO t p = none) : ∃ c, c ≠ 0 ∧ getN t p = ⟨0, 0, c⟩ := by
  unfold numO at h
  rcases getN_ways t p with ⟨c, hc, hg⟩ | ⟨m, d, hg, h1, h2⟩
  · exact ⟨c, hc, hg⟩
  · rw [hg, if_pos rfl] at h; cases h
theorem numYes (g p b : Nat) (t : ByteArray) (n : Int) (w : World) (hs : t.size ≤ maxLen) (hn : numO t p = some (n, b) ∧ p ≤ t.size) (h : RowV w g (cuv t p)) :
    Calls Tryd.prog 82 #[.pointer (some ⟨g, 0, none⟩)] w fun e w' => e = .returned (.int .i64 n) ∧ RowV w' g (cuv t b) ∧ Only g w w' :=
  numberYes g b t p n w (i64n (by unfold maxLen at hs; omega)) hs (numO_some hn.1).1 h
theorem numNo (g p : Nat) (t : ByteArray) (w : World) (hs : t.size ≤ maxLen) (hn : numO t p = none) (hp : p ≤ t.size) (h : RowV w g (cuv t p)) :
    Calls Tryd.prog 82 #[.pointer (some ⟨g, 0, none⟩)] w fun e w' => e = .panicked [{ v := faultV, recovered := false }] ∧ Only g w w' := by
  obtain ⟨c, hc, hg⟩ := numO_none hn
  exact numberNo g t p c w (i64n (by unfold maxLen at hs; omega)) hs hc hg h
theorem lkv_one (v e x : Int) : ∀ y ∈ lkv v e x, y.oneCell' = true := by
  intro y hy
  simp [lkv] at hy
  rcases hy with h | h | h <;> (rw [h]; rfl)
theorem KpM.apartN {g b : Nat} {r l : List Value} {w w' : World} (h : Hid (KpM g r [(b, l)] w w')) : b < w'.heap.size := (h.out.own _ (List.mem_cons_self ..)).2.2.lt (h.out.own _ (List.mem_cons_self ..)).2.1
theorem one_apart {b c : Nat} {l : List Value} (h : b < c) : ∀ x ∈ [(b, l)], x.1 ≠ c := fun x hx => by
  obtain rfl := List.mem_singleton.1 hx
  exact Nat.ne_of_lt h
/- The last store goes into the call's own variable: what a caller knows. -/
theorem KpM.putOf {g b : Nat} {r l l' : List Value} {rows : List (Nat × List Value)} {w w' w2 : World} (h : Hid (KpM g r ((b, l) :: rows) w w')) (hr : RowV w2 b l') (hn : l' ≠ []) (ho : Only b w' w2) : RowV w2 g r ∧ Only g w w2 := by
  have h1 := h.out.own (b, l) (List.mem_cons_self ..)
  have hb : w.heap.size ≤ b := h1.1
  have hg := h.out.lt
  refine ⟨ho.row h.out.row h.out.ne (by omega), ⟨h.out.only.below.trans (ho.below.mono (by omega)), fun x hx hl => ?_, Nat.le_trans h.out.only.size ho.size⟩⟩
  have h2 := h.out.only.blk x hx hl
  have h3 := ho.blk x (by omega) (Nat.lt_of_lt_of_le hl h.out.only.size)
  exact h3.trans h2
end Go.Proofs.YtchfpiadfmnphaaDoor
namespace Go.Proofs.YtchfpiadfmnphaaDoor
open Go.RowKit
set_option linter.unusedVariables false

def textO (t : ByteArray) (p : Nat) : Option (ByteArray × Nat) := if (getT t p).code = 0 then some ((getT t p).text, (getT t p).behind.toNat) else none
theorem textO_some {t x : ByteArray} {p b : Nat} (h : textO t p = some (x, b)) : getT t p = ⟨x, b, 0⟩ ∧ b ≤ t.size ∧ x.size ≤ t.size ∧ t.size ≤ 20000 := by
  unfold textO at h
  rcases getT_ways t p with ⟨c, hc, _, ht⟩ | ⟨n, b', _, _, _, _, ht⟩ | ⟨m, b', _, _, _, _, _, ht⟩ | ⟨m, b', _, _, h1, h2, h3, ht⟩
  · rw [ht, if_neg hc] at h; cases h
  · rw [ht, if_neg (by decide)] at h; cases h
  · rw [ht, if_neg (by decide)] at h; cases h
  · rw [ht, if_pos rfl] at h
    have := Option.some.inj h
    injection this with e1 e2
    simp at e1 e2
    subst e1
    have e3 : b = b' + m := by omega
    subst e3
    exact ⟨ht, by omega, by rw [ByteArray.size_extract]; omega, h2⟩
theorem textO_none {t : ByteArray} {p : Nat} (h : textO t p = none) : ∃ c, c ≠ 0 ∧ getT t p = ⟨noText, 0, c⟩ := by
  unfold textO at h
  rcases getT_ways t p with ⟨c, hc, _, ht⟩ | ⟨n, b', _, _, _, _, ht⟩ | ⟨m, b', _, _, _, _, _, ht⟩ | ⟨m, b', _, _, _, _, _, ht⟩
  · exact ⟨c, hc, ht⟩
  · exact ⟨3, by decide, ht⟩
  · exact ⟨4, by decide, ht⟩
  · rw [ht, if_pos rfl] at h; cases h
set_option maxRecDepth 100000 in
set_option maxHeartbeats 1000000 in
theorem textYes (g p b : Nat) (t x : ByteArray) (w : World) (hs : t.size ≤ maxLen) (hn : textO t p = some (x, b) ∧ p ≤ t.size) (h : RowV w g (cuv t p)) :
    Calls Tryd.prog 79 #[.pointer (some ⟨g, 0, none⟩)] w fun e w' => e = .returned (.string x) ∧ RowV w' g (cuv t b) ∧ Only g w w' := by
  obtain ⟨hg, -, -⟩ := textO_some hn.1
  have hN : ∀ w0, Calls Tryd.prog 102 #[.string t, .int .i64 (p : Int)] w0 fun e w' => e = .returned (.tuple #[.string x, .int .i64 (b : Int), .nilIface]) ∧ Below w0.heap.size w0 w' := fun w0 => by
    have := readText_any t p w0 hs (i64n (by unfold maxLen at hs; have := hn.2; omega))
    rw [hg] at this
    exact this
  have hM : ∀ w0, Calls Tryd.prog 78 #[.pointer (some ⟨g, 0, none⟩), .bool true] w0 fun e w' => e = .returned (.tuple #[]) ∧ w0 = w' := fun w0 => mustYes _ w0
  have HK0 := KpCu.drew (KpCu.start (Only.refl g w) h)
  obtain ⟨c0, c1⟩ := h.cu
  clear hg hn h
  go_enter Tryd.func79, Tryd.ntmps79
  go_wp2_with fail
  clear c0 c1
  go_region_held3 (fun w' => w'.cell? ⟨g, 0, none⟩ = some (.string t) ∧ w'.cell? ⟨g, 1, none⟩ = some (.int .i64 (p : Int)) ∧ Hid (KpCu g (cuv t p) w w'))
    (first | exact KpCu.two HK0 | exact KpCu.two (KpCu.call HK0 (cuv_ne _ _) h8))
    (first
      | (go_at_call 102; with_reducible refine (hN _).mono ?_; rintro r w8 ⟨rfl, h8⟩))
  all_goals
    have HK8 := KpCu.call HK0 (cuv_ne _ _) h8
    go_wp2_with (first
      | (go_at_call 78; with_reducible refine (hM _).mono ?_; rintro e w' ⟨rfl, rfl⟩)
      | (with_reducible refine wpList_cellH (w := w8) (by with_unfolding_all rfl) 2 (.tmp 26) (.tmp 24) (by with_unfolding_all rfl) g 1 (cuv t p) (cuv t b) (.int .i64 (b : Int)) (by with_unfolding_all rfl) (by with_unfolding_all rfl) rfl Tryd.siz1I HK8.out.row (by simp [cuv]) (by with_unfolding_all rfl) ?_; intro w2 hA2 hB2 hF2 hS2))
    go_ret
    exact ⟨rfl, hA2, HK8.out.only.trans (Only.set hB2 hF2 hS2)⟩
set_option maxRecDepth 100000 in
set_option maxHeartbeats 1000000 in
theorem textNo (g p : Nat) (t : ByteArray) (w : World) (hs : t.size ≤ maxLen) (hn : textO t p = none) (hp : p ≤ t.size) (h : RowV w g (cuv t p)) :
    Calls Tryd.prog 79 #[.pointer (some ⟨g, 0, none⟩)] w fun e w' => e = .panicked [{ v := faultV, recovered := false }] ∧ Only g w w' := by
  obtain ⟨c, hc, hg⟩ := textO_none hn
  have hN : ∀ w0, Calls Tryd.prog 102 #[.string t, .int .i64 (p : Int)] w0 fun e w' => e = .returned (.tuple #[.string noText, .int .i64 0, .iface 149 (.agg #[.int .i64 c])]) ∧ Below w0.heap.size w0 w' := fun w0 => by
    have := readText_any t p w0 hs (i64n (by unfold maxLen at hs; omega))
    rw [hg] at this
    unfold tr errV at this
    rw [if_neg hc] at this
    exact this
  have hM : ∀ w0, Calls Tryd.prog 78 #[.pointer (some ⟨g, 0, none⟩), .bool false] w0 fun e w' => e = .panicked [{ v := faultV, recovered := false }] ∧ w0 = w' := fun w0 => mustNo _ w0
  have HK0 := KpCu.drew (KpCu.start (Only.refl g w) h)
  obtain ⟨c0, c1⟩ := h.cu
  clear hg hn h hc
  go_enter Tryd.func79, Tryd.ntmps79
  go_wp2_with fail
  clear c0 c1
  go_region_held3 (fun w' => w'.cell? ⟨g, 0, none⟩ = some (.string t) ∧ w'.cell? ⟨g, 1, none⟩ = some (.int .i64 (p : Int)) ∧ Hid (KpCu g (cuv t p) w w'))
    (first | exact KpCu.two HK0 | exact KpCu.two (KpCu.call HK0 (cuv_ne _ _) h8))
    (first
      | (go_at_call 102; with_reducible refine (hN _).mono ?_; rintro r w8 ⟨rfl, h8⟩))
  all_goals
    have HK8 := KpCu.call HK0 (cuv_ne _ _) h8
    go_wp2_with (first
      | (go_at_call 78; with_reducible refine (hM _).mono ?_; rintro e w' ⟨rfl, rfl⟩))
    exact ⟨rfl, rfl, HK8.out.only⟩
def countO (t : ByteArray) (p : Nat) (most : Nat) : Option (Nat × Nat) := match numO t p with
  | some (n, b) => if 0 ≤ n ∧ n ≤ (most : Int) then some (n.toNat, b) else none
  | none => none
set_option maxRecDepth 100000 in
set_option maxHeartbeats 1000000 in
theorem countYes (g p b m k : Nat) (t : ByteArray) (w : World) (hs : t.size ≤ maxLen) (hn : countO t p m = some (k, b) ∧ p ≤ t.size) (h : RowV w g (cuv t p)) :
    Calls Tryd.prog 80 #[.pointer (some ⟨g, 0, none⟩), .int .i64 (m : Int)] w fun e w' => e = .returned (.int .i64 (k : Int)) ∧ RowV w' g (cuv t b) ∧ Only g w w' := by
  obtain ⟨n, hno, h1, h2⟩ : ∃ n : Int, numO t p = some (n, b) ∧ (0 ≤ n ∧ n ≤ (m : Int)) ∧ n = (k : Int) := by
    have := hn.1
    unfold countO at this
    cases ho : numO t p with
    | none => rw [ho] at this; cases this
    | some x =>
      obtain ⟨n, b'⟩ := x
      rw [ho] at this
      simp only at this
      split at this
      · rename_i hh
        have := Option.some.inj this
        injection this with e1 e2
        subst e2
        exact ⟨n, rfl, hh, by omega⟩
      · cases this
  subst h2
  have hN : Hid (Calls Tryd.prog 82 #[.pointer (some ⟨g, 0, none⟩)] w fun e w' => e = .returned (.int .i64 (k : Int)) ∧ RowV w' g (cuv t b) ∧ Only g w w') := numYes g p b t k w hs ⟨hno, hn.2⟩ h
  have hM : ∀ w0, Calls Tryd.prog 78 #[.pointer (some ⟨g, 0, none⟩), .bool true] w0 fun e w' => e = .returned (.tuple #[]) ∧ w0 = w' := fun w0 => mustYes _ w0
  have d1 : decide ((0 : Int) ≤ (k : Int)) = true := decide_eq_true h1.1
  have d2 : decide ((k : Int) ≤ (m : Int)) = true := decide_eq_true h1.2
  have d3 : decide (k ≤ m) = true := decide_eq_true (by omega)
  clear h hn hno h1
  go_enter Tryd.func80, Tryd.ntmps80
  go_wp2_with (first
    | (go_at_call 82; refine Calls.mono hN.out ?_; rintro e w1 ⟨rfl, hR1, hO1⟩)
    | (go_at_call 78; with_reducible refine (hM _).mono ?_; rintro e w' ⟨rfl, rfl⟩))
  go_ret
  exact ⟨rfl, hR1, hO1⟩
set_option maxRecDepth 100000 in
set_option maxHeartbeats 1000000 in
theorem countNo (g p m : Nat) (t : ByteArray) (w : World) (hs : t.size ≤ maxLen) (hn : countO t p m = none) (hp : p ≤ t.size) (h : RowV w g (cuv t p)) :
    Calls Tryd.prog 80 #[.pointer (some ⟨g, 0, none⟩), .int .i64 (m : Int)] w fun e w' => e = .panicked [{ v := faultV, recovered := false }] ∧ Only g w w' := by
  have hM : ∀ w0, Calls Tryd.prog 78 #[.pointer (some ⟨g, 0, none⟩), .bool false] w0 fun e w' => e = .panicked [{ v := faultV, recovered := false }] ∧ w0 = w' := fun w0 => mustNo _ w0
  cases ho : numO t p with
  | none =>
    have hN : Hid (Calls Tryd.prog 82 #[.pointer (some ⟨g, 0, none⟩)] w fun e w' => e = .panicked [{ v := faultV, recovered := false }] ∧ Only g w w') := numNo g p t w hs ho hp h
    clear h hn ho
    go_enter Tryd.func80, Tryd.ntmps80
    go_wp2_with (first
      | (go_at_call 82; refine Calls.mono hN.out ?_; rintro e w1 ⟨rfl, hO1⟩))
    exact ⟨rfl, rfl, hO1⟩
  | some x =>
    obtain ⟨n, b⟩ := x
    have hnn : ¬ (0 ≤ n ∧ n ≤ (m : Int)) := fun hh => by
      unfold countO at hn
      rw [ho] at hn
      simp only at hn
      rw [if_pos hh] at hn
      cases hn
    have hN : Hid (Calls Tryd.prog 82 #[.pointer (some ⟨g, 0, none⟩)] w fun e w' => e = .returned (.int .i64 n) ∧ RowV w' g (cuv t b) ∧ Only g w w') := numYes g p b t n w hs ⟨ho, hp⟩ h
    clear h hn ho
    by_cases h0 : 0 ≤ n
    · have d1 : decide ((0 : Int) ≤ n) = true := decide_eq_true h0
      have d2 : decide (n ≤ (m : Int)) = false := decide_eq_false (fun h => hnn ⟨h0, h⟩)
      clear hnn
      go_enter Tryd.func80, Tryd.ntmps80
      go_wp2_with (first
        | (go_at_call 82; refine Calls.mono hN.out ?_; rintro e w1 ⟨rfl, hR1, hO1⟩)
        | (go_at_call 78; with_reducible refine (hM _).mono ?_; rintro e w' ⟨rfl, rfl⟩))
      exact ⟨rfl, rfl, hO1⟩
    · have d1 : decide ((0 : Int) ≤ n) = false := decide_eq_false h0
      clear hnn
      go_enter Tryd.func80, Tryd.ntmps80
      go_wp2_with (first
        | (go_at_call 82; refine Calls.mono hN.out ?_; rintro e w1 ⟨rfl, hR1, hO1⟩)
        | (go_at_call 78; with_reducible refine (hM _).mono ?_; rintro e w' ⟨rfl, rfl⟩))
      exact ⟨rfl, rfl, hO1⟩
end Go.Proofs.YtchfpiadfmnphaaDoor
namespace Go.Proofs.YtchfpiadfmnphaaDoor
open Go.RowKit
set_option linter.unusedVariables false

def bytesO (t : ByteArray) (p n : Nat) : Option (ByteArray × Nat) := if p + n ≤ t.size then some (t.extract p (p + n), p + n) else none
theorem bytesO_no {t : ByteArray} {p n : Nat} (h : bytesO t p n = none) : t.size < p + n := by
  unfold bytesO at h
  split at h
  · cases h
  · omega
theorem bytesO_yes {t x : ByteArray} {p n b : Nat} (h : bytesO t p n = some (x, b)) : x = t.extract p b ∧ p + n = b ∧ b ≤ t.size := by
  unfold bytesO at h
  split at h
  · injection h with h
    injection h with h1 h2
    subst h2
    exact ⟨h1.symm, rfl, by assumption⟩
  · cases h
theorem countO_le {t : ByteArray} {p m k b : Nat} (h : countO t p m = some (k, b)) : k ≤ m ∧ b ≤ t.size := by
  unfold countO at h
  cases hn : numO t p with
  | none => rw [hn] at h; cases h
  | some u =>
    obtain ⟨n, c⟩ := u
    rw [hn] at h
    simp only at h
    split at h
    · have := Option.some.inj h
      injection this with e1 e2
      subst e2
      exact ⟨by omega, (numO_some hn).2.1⟩
    · cases h
theorem unf_i64 {u : Nat} (h : u ≤ 18446744073709551615) : I64 (unf u) := by
  unfold I64 unf
  split <;> simp [Lit.wf, IntKind.min, IntKind.max, IntKind.signed, IntKind.bits] <;> omega
theorem Rd.i64 {s : ByteArray} {a : Nat} {R : G} : ∀ (m i u : Nat), i + m = 9 → Rd s a R i u → R.code = 0 → I64 R.n
  | m, i, u, hm, h, hc => by
    by_cases hlt : a + i < s.size
    · by_cases hl : s[a + i].toNat < 128 ∨ i = 9
      · have he := h.last hlt rfl hl
        unfold fin at he
        split at he
        · rw [he] at hc; exact absurd hc (by decide)
        · rename_i hn
          rw [he]
          exact unf_i64 (h.sum (d := s[a + i].toNat) (by omega) (by omega))
      · have h2 := h.more hlt rfl (by omega) (by omega)
        match m, hm with
        | 0, hm => omega
        | m + 1, hm => exact Rd.i64 m (i + 1) _ (by omega) h2 hc
    · rw [h.short hlt] at hc; exact absurd hc (by decide)
theorem numO_i64 {t : ByteArray} {p b : Nat} {n : Int} (h : numO t p = some (n, b)) : I64 n := by
  obtain ⟨hg, -, h2⟩ := numO_some h
  have hh : scan t p 10 0 0 = ⟨n, b, 0⟩ := by
    have := hg
    unfold getN at this
    rw [if_neg (by omega), if_neg (by omega)] at this
    simpa using this
  have := Rd.i64 9 0 0 rfl (Rd.start t p) (by rw [hh])
  rw [hh] at this
  exact this
end Go.Proofs.YtchfpiadfmnphaaDoor
namespace Go.Proofs.YtchfpiadfmnphaaDoor
open Go.RowKit Go.Joins Go.ChangeShapes Go.WideShapes Go.ChangeAt Go.Deep
set_option linter.unusedVariables false

structure LayV where
  bl : ByteArray
  sz : Int
def LayV.w (x : LayV) : Prop := x.bl.size ≤ maxLen ∧ I64 x.sz
def layv (x0 : ByteArray) (x1 : Int) : List Value := [.string x0, .int .i64 x1]
theorem layv_one (x0 : ByteArray) (x1 : Int) : ∀ v ∈ layv x0 x1, v.oneCell' = true := by
  intro v hv
  simp only [layv, List.mem_cons, List.not_mem_nil, or_false] at hv
  rcases hv with rfl | rfl <;> rfl
def layL (l : List LayV) : List (List Value) := l.map fun x => layv x.bl x.sz
theorem layL_len (l : List LayV) : (layL l).length = l.length := List.length_map _
theorem layL_get {l : List LayV} {i : Nat} (h : i < l.length) : (layL l)[i]'(by rw [layL_len]; exact h) = layv l[i].bl l[i].sz := by unfold layL; rw [List.getElem_map]
theorem layL_all (l : List LayV) : ∀ x ∈ layL l, x.length = 2 := fun x hx => by
  unfold layL at hx
  obtain ⟨y, _, rfl⟩ := List.mem_map.1 hx
  rfl
def LayAt (w : World) (a : Option Addr) (l : List LayV) : Prop := ∀ i (h : i < l.length), ∃ b o, a = some ⟨b, o, none⟩ ∧ w.cell? ⟨b, o + i * 2, none⟩ = some (.string l[i].bl) ∧ w.cell? ⟨b, o + i * 2 + 1, none⟩ = some (.int .i64 l[i].sz)
theorem LayAt.below {w w' : World} {a : Option Addr} {l : List LayV} (h : LayAt w a l) (hb : Below w.heap.size w w') : LayAt w' a l := fun i hi => by
  obtain ⟨b, o, h1, h2, h3⟩ := h i hi
  exact ⟨b, o, h1, (hb.cell (p := ⟨b, o + i * 2, none⟩) (cellLt h2)).trans h2, (hb.cell (p := ⟨b, o + i * 2 + 1, none⟩) (cellLt h3)).trans h3⟩
theorem LayAt.here {w : World} {b o : Nat} {l : List LayV} (h : LayAt w (some ⟨b, o, none⟩) l) (i : Nat) (hi : i < l.length) : w.cell? ⟨b, o + i * 2, none⟩ = some (.string l[i].bl) ∧ w.cell? ⟨b, o + i * 2 + 1, none⟩ = some (.int .i64 l[i].sz) := by
  obtain ⟨b', o', e, h2, h3⟩ := h i hi
  injection e with e
  injection e with e1 e2
  subst e1 e2
  exact ⟨h2, h3⟩
theorem RowV.lay {w : World} {g : Nat} {l : List LayV} (h : RowV w g (layL l).flatten) : LayAt w (some ⟨g, 0, none⟩) l := fun i hi => by
  have hg : ∀ j, j < 2 → (layL l).flatten[i * 2 + j]? = (layv l[i].bl l[i].sz)[j]? := fun j hj => by
    rw [flatS_get (layL l) (layL_all l) i j (by rw [layL_len]; exact hi) hj, layL_get hi]
  refine ⟨g, 0, rfl, ?_, ?_⟩
  all_goals rw [Nat.zero_add]
  · exact h.cell (k := i * 2) (hg 0 (by decide))
  · exact h.cell (k := i * 2 + 1) (hg 1 (by decide))
theorem BldV.layrow {w : World} {g n : Nat} {l : List LayV} (h : BldV w g 2 n (layL l) n) (hn : l.length = n) : RowV w g (layL l).flatten := h.flat (by rw [layL_len]; exact hn) (layL_all l) (by decide)
theorem Tryd.infLay : (Tryd.prog.info? 85).map (fun i => (i.zero, i.size, i.bytes)) = some (some (.agg #[.string ⟨#[]⟩, .int .i64 0]), 2, 24) := by kernel_rfl
structure LayB (w : World) (a : Option Addr) (l : List LayV) (g n k : Nat) (w' : World) : Prop where
  below : Below w.heap.size w w'
  at_ : LayAt w' a l
  bld : BldV w' g 2 n (layL l) k
  lt : g < w'.heap.size
  ge : w.heap.size ≤ g
theorem LayB.call {w w' w2 : World} {a : Option Addr} {l : List LayV} {g n k : Nat} (h : Hid (LayB w a l g n k w')) (hb : Below w'.heap.size w' w2) : Hid (LayB w a l g n k w2) :=
  ⟨h.out.below.trans (hb.mono h.out.below.size), h.out.at_.below hb, h.out.bld.below hb h.out.lt, Nat.lt_of_lt_of_le h.out.lt hb.size, h.out.ge⟩
theorem LayB.there {w w' : World} {a : Option Addr} {l : List LayV} {g n k : Nat} (h : Hid (LayB w a l g n k w')) (hk : k < n) : w'.there g (k * 2) 2 := there_part h.out.bld.ths hk
theorem LayB.step {w w' : World} {a : Option Addr} {l : List LayV} {g n k : Nat} {x0 : ByteArray} {x1 : Int} (h : Hid (LayB w a l g n k w')) (h0 : Hid (LayAt w a l)) (hk : k < n) (hn : l.length = n) (he : Hid (True → ∃ h : k < l.length, layv l[k].bl l[k].sz = layv x0 x1)) : Hid (LayB w a l g n (k + 1) (w'.setCells g (k * 2) (layv x0 x1))) := by
  obtain ⟨hkl, he⟩ := he.out trivial
  have hb : Below w.heap.size w (w'.setCells g (k * 2) (layv x0 x1)) := h.out.below.trans (below_set h.out.ge)
  refine ⟨hb, h0.out.below hb, ?_, by rw [setCells_size]; exact h.out.lt, h.out.ge⟩
  rw [← he, ← layL_get hkl]
  exact h.out.bld.step hk (by rw [layL_len]; exact hkl) (layL_all l)
set_option maxRecDepth 100000 in
set_option maxHeartbeats 1000000 in
theorem eqLay1 (x0 : ByteArray) (x1 : Int) (w : World) :
    Calls Tryd.prog 84 #[.agg #[.string x0, .int .i64 x1], .agg #[.string x0, .int .i64 x1]] w fun r w' => r = .returned (.bool true) ∧ Below w.heap.size w w' := by
  have e0 := txt_eq x0
  have e1 : (x1 == x1) = true := by simp
  have f1 : (x1 != x1) = false := by simp
  go_enter Tryd.func84, Tryd.ntmps84
  go_wp2_with (first
    | (with_reducible refine wpList_boxV (w := w) (by with_unfolding_all rfl) 85 (.tmp 0) (by with_unfolding_all rfl) (layv x0 x1) (by with_unfolding_all rfl) ?_; intro w1 hA1 hB1 hS1; have z1 : w.heap.size < w1.heap.size := (by omega); clear hS1)
    | (with_reducible refine wpList_boxV (w := w1) (by with_unfolding_all rfl) 85 (.tmp 1) (by with_unfolding_all rfl) (layv x0 x1) (by with_unfolding_all rfl) ?_; intro w2 hA2 hB2 hS2; clear hS2; have hA3 := hA1.below hB2 z1; have p0 := hA3.cell (k := 0) rfl; have q0 := hA2.cell (k := 0) rfl; have p1 := hA3.cell (k := 1) rfl; have q1 := hA2.cell (k := 1) rfl))
  go_ret
  exact ⟨rfl, hB1.trans (hB2.mono (by omega))⟩
structure Lay2 (w : World) (a1 a2 : Option Addr) (l : List LayV) (w' : World) : Prop where
  below : Below w.heap.size w w'
  s1 : LayAt w' a1 l
  s2 : LayAt w' a2 l
theorem Lay2.start {w : World} {a1 a2 : Option Addr} {l : List LayV} (h1 : LayAt w a1 l) (h2 : LayAt w a2 l) : Hid (Lay2 w a1 a2 l w) := ⟨Below.refl _ _, h1, h2⟩
theorem Lay2.call {w w' w2 : World} {a1 a2 : Option Addr} {l : List LayV} (h : Hid (Lay2 w a1 a2 l w')) (hb : Below w'.heap.size w' w2) : Hid (Lay2 w a1 a2 l w2) := ⟨h.out.below.trans (hb.mono h.out.below.size), h.out.s1.below hb, h.out.s2.below hb⟩
theorem Lay2.drew {w w' : World} {a1 a2 : Option Addr} {l : List LayV} (h : Hid (Lay2 w a1 a2 l w')) : Hid (Lay2 w a1 a2 l w'.drew) := ⟨h.out.below.drew, h.out.s1, h.out.s2⟩
theorem Lay2.all {w w' : World} {b1 o1 b2 o2 i : Nat} {l : List LayV} {x0 : ByteArray} {x1 : Int} (hr : Hid (True → ∃ h : i < l.length, l[i].bl = x0 ∧ l[i].sz = x1)) (h : Hid (Lay2 w (some ⟨b1, o1, none⟩) (some ⟨b2, o2, none⟩) l w')) :
    w'.cell? ⟨b1, o1 + i * 2, none⟩ = some (.string x0) ∧ w'.cell? ⟨b1, o1 + i * 2 + 1, none⟩ = some (.int .i64 x1) ∧ w'.cell? ⟨b2, o2 + i * 2, none⟩ = some (.string x0) ∧ w'.cell? ⟨b2, o2 + i * 2 + 1, none⟩ = some (.int .i64 x1) ∧ Hid (Lay2 w (some ⟨b1, o1, none⟩) (some ⟨b2, o2, none⟩) l w') := by
  obtain ⟨hi, rfl, rfl⟩ := hr.out trivial
  obtain ⟨p0, p1⟩ := h.out.s1.here i hi
  obtain ⟨q0, q1⟩ := h.out.s2.here i hi
  exact ⟨p0, p1, q0, q1, h⟩
set_option maxRecDepth 100000 in
set_option maxHeartbeats 1000000 in
theorem eqLayS (a1 a2 : Option Addr) (c1 c2 n : Nat) (l : List LayV) (w : World) (hn : l.length = n) (h1 : LayAt w a1 l) (h2 : LayAt w a2 l) (hb : n ≤ maxLen) :
    Calls Tryd.prog 54 #[.slice a1 n c1, .slice a2 n c2] w fun e w' => e = .returned (.bool true) ∧ Below w.heap.size w w' := by
  unfold maxLen at hb
  have HN : Hid (l.length = n) := hn
  have HS0 := Lay2.start h1 h2
  clear h1 h2 hn
  go_enter Tryd.func54, Tryd.ntmps54
  go_wp2_with fail
  go_loopw [5] (fun i wr => ∃ k : Nat, i = .int .i64 (k : Int) ∧ k ≤ n ∧ Hid (Lay2 w a1 a2 l wr)) (fun i _ => n - (intOf i).toNat)
  case atStart => exact ⟨0, rfl, Nat.zero_le _, HS0⟩
  case round =>
    clear HS0
    obtain ⟨k, rfl, hk, HS⟩ := hrel
    by_cases hlt : k < n
    case neg =>
      obtain rfl : k = n := by omega
      go_wp2
      go_ret
      exact ⟨rfl, HS.out.below⟩
    have hkl : k < l.length := by have := HN.out; omega
    obtain ⟨b1, o1, rfl, hd1⟩ := HS.out.s1 k hkl
    clear hd1
    obtain ⟨b2, o2, rfl, hd2⟩ := HS.out.s2 k hkl
    clear hd2
    obtain ⟨x0, hx0⟩ : ∃ x, l[k].bl = x := ⟨_, rfl⟩
    obtain ⟨x1, hx1⟩ : ∃ x, l[k].sz = x := ⟨_, rfl⟩
    have HE : Hid (True → ∃ h : k < l.length, l[k].bl = x0 ∧ l[k].sz = x1) := fun _ => ⟨hkl, hx0, hx1⟩
    clear hx0 hx1 hkl
    have hT : ∀ w0, Calls Tryd.prog 84 #[.agg #[.string x0, .int .i64 x1], .agg #[.string x0, .int .i64 x1]] w0 fun r w' => r = .returned (.bool true) ∧ Below w0.heap.size w0 w' := fun w0 => eqLay1 x0 x1 w0
    have lk : (k : Int) < n := by omega
    have l0 : (0 : Int) ≤ k := by omega
    have HSd := Lay2.drew HS
    clear HS
    go_wp2_with fail
    go_region_held3 (fun w' => w'.cell? ⟨b1, o1 + k * 2, none⟩ = some (.string x0) ∧ w'.cell? ⟨b1, o1 + k * 2 + 1, none⟩ = some (.int .i64 x1) ∧ w'.cell? ⟨b2, o2 + k * 2, none⟩ = some (.string x0) ∧ w'.cell? ⟨b2, o2 + k * 2 + 1, none⟩ = some (.int .i64 x1) ∧ Hid (Lay2 w (some ⟨b1, o1, none⟩) (some ⟨b2, o2, none⟩) l w'))
      (first | exact Lay2.all HE HSd | exact Lay2.all HE (Lay2.call HSd h8))
      (first
        | (go_at_call 84; with_reducible refine (hT _).mono ?_; rintro r w8 ⟨rfl, h8⟩))
    all_goals
      have HS9 := Lay2.call HSd h8
      go_wp2_with fail
      go_roundw
      case rel => exact ⟨k + 1, by go_num, by omega, HS9⟩
      case measure => simp [intOf]; omega
structure LayZ (w : World) (a : Option Addr) (l : List LayV) (w' : World) : Prop where
  below : Below w.heap.size w w'
  at_ : LayAt w' a l
theorem LayZ.start {w : World} {a : Option Addr} {l : List LayV} (h : LayAt w a l) : Hid (LayZ w a l w) := ⟨Below.refl _ _, h⟩
theorem LayZ.call {w w' w2 : World} {a : Option Addr} {l : List LayV} (h : Hid (LayZ w a l w')) (hb : Below w'.heap.size w' w2) : Hid (LayZ w a l w2) := ⟨h.out.below.trans (hb.mono h.out.below.size), h.out.at_.below hb⟩
end Go.Proofs.YtchfpiadfmnphaaDoor
namespace Go.Proofs.YtchfpiadfmnphaaDoor
open Go.RowKit Go.Joins Go.ChangeShapes Go.WideShapes Go.ChangeAt Go.Deep
set_option linter.unusedVariables false

structure LabV where
  ky : ByteArray
  vl : ByteArray
def LabV.w (x : LabV) : Prop := x.ky.size ≤ maxLen ∧ x.vl.size ≤ maxLen
def labv (x0 : ByteArray) (x1 : ByteArray) : List Value := [.string x0, .string x1]
theorem labv_one (x0 : ByteArray) (x1 : ByteArray) : ∀ v ∈ labv x0 x1, v.oneCell' = true := by
  intro v hv
  simp only [labv, List.mem_cons, List.not_mem_nil, or_false] at hv
  rcases hv with rfl | rfl <;> rfl
def labL (l : List LabV) : List (List Value) := l.map fun x => labv x.ky x.vl
theorem labL_len (l : List LabV) : (labL l).length = l.length := List.length_map _
theorem labL_get {l : List LabV} {i : Nat} (h : i < l.length) : (labL l)[i]'(by rw [labL_len]; exact h) = labv l[i].ky l[i].vl := by unfold labL; rw [List.getElem_map]
theorem labL_all (l : List LabV) : ∀ x ∈ labL l, x.length = 2 := fun x hx => by
  unfold labL at hx
  obtain ⟨y, _, rfl⟩ := List.mem_map.1 hx
  rfl
def LabAt (w : World) (a : Option Addr) (l : List LabV) : Prop := ∀ i (h : i < l.length), ∃ b o, a = some ⟨b, o, none⟩ ∧ w.cell? ⟨b, o + i * 2, none⟩ = some (.string l[i].ky) ∧ w.cell? ⟨b, o + i * 2 + 1, none⟩ = some (.string l[i].vl)
theorem LabAt.below {w w' : World} {a : Option Addr} {l : List LabV} (h : LabAt w a l) (hb : Below w.heap.size w w') : LabAt w' a l := fun i hi => by
  obtain ⟨b, o, h1, h2, h3⟩ := h i hi
  exact ⟨b, o, h1, (hb.cell (p := ⟨b, o + i * 2, none⟩) (cellLt h2)).trans h2, (hb.cell (p := ⟨b, o + i * 2 + 1, none⟩) (cellLt h3)).trans h3⟩
theorem LabAt.here {w : World} {b o : Nat} {l : List LabV} (h : LabAt w (some ⟨b, o, none⟩) l) (i : Nat) (hi : i < l.length) : w.cell? ⟨b, o + i * 2, none⟩ = some (.string l[i].ky) ∧ w.cell? ⟨b, o + i * 2 + 1, none⟩ = some (.string l[i].vl) := by
  obtain ⟨b', o', e, h2, h3⟩ := h i hi
  injection e with e
  injection e with e1 e2
  subst e1 e2
  exact ⟨h2, h3⟩
theorem RowV.lab {w : World} {g : Nat} {l : List LabV} (h : RowV w g (labL l).flatten) : LabAt w (some ⟨g, 0, none⟩) l := fun i hi => by
  have hg : ∀ j, j < 2 → (labL l).flatten[i * 2 + j]? = (labv l[i].ky l[i].vl)[j]? := fun j hj => by
    rw [flatS_get (labL l) (labL_all l) i j (by rw [labL_len]; exact hi) hj, labL_get hi]
  refine ⟨g, 0, rfl, ?_, ?_⟩
  all_goals rw [Nat.zero_add]
  · exact h.cell (k := i * 2) (hg 0 (by decide))
  · exact h.cell (k := i * 2 + 1) (hg 1 (by decide))
theorem BldV.labrow {w : World} {g n : Nat} {l : List LabV} (h : BldV w g 2 n (labL l) n) (hn : l.length = n) : RowV w g (labL l).flatten := h.flat (by rw [labL_len]; exact hn) (labL_all l) (by decide)
theorem Tryd.infLab : (Tryd.prog.info? 116).map (fun i => (i.zero, i.size, i.bytes)) = some (some (.agg #[.string ⟨#[]⟩, .string ⟨#[]⟩]), 2, 32) := by kernel_rfl
structure LabB (w : World) (a : Option Addr) (l : List LabV) (g n k : Nat) (w' : World) : Prop where
  below : Below w.heap.size w w'
  at_ : LabAt w' a l
  bld : BldV w' g 2 n (labL l) k
  lt : g < w'.heap.size
  ge : w.heap.size ≤ g
theorem LabB.call {w w' w2 : World} {a : Option Addr} {l : List LabV} {g n k : Nat} (h : Hid (LabB w a l g n k w')) (hb : Below w'.heap.size w' w2) : Hid (LabB w a l g n k w2) :=
  ⟨h.out.below.trans (hb.mono h.out.below.size), h.out.at_.below hb, h.out.bld.below hb h.out.lt, Nat.lt_of_lt_of_le h.out.lt hb.size, h.out.ge⟩
theorem LabB.there {w w' : World} {a : Option Addr} {l : List LabV} {g n k : Nat} (h : Hid (LabB w a l g n k w')) (hk : k < n) : w'.there g (k * 2) 2 := there_part h.out.bld.ths hk
theorem LabB.step {w w' : World} {a : Option Addr} {l : List LabV} {g n k : Nat} {x0 : ByteArray} {x1 : ByteArray} (h : Hid (LabB w a l g n k w')) (h0 : Hid (LabAt w a l)) (hk : k < n) (hn : l.length = n) (he : Hid (True → ∃ h : k < l.length, labv l[k].ky l[k].vl = labv x0 x1)) : Hid (LabB w a l g n (k + 1) (w'.setCells g (k * 2) (labv x0 x1))) := by
  obtain ⟨hkl, he⟩ := he.out trivial
  have hb : Below w.heap.size w (w'.setCells g (k * 2) (labv x0 x1)) := h.out.below.trans (below_set h.out.ge)
  refine ⟨hb, h0.out.below hb, ?_, by rw [setCells_size]; exact h.out.lt, h.out.ge⟩
  rw [← he, ← labL_get hkl]
  exact h.out.bld.step hk (by rw [labL_len]; exact hkl) (labL_all l)
set_option maxRecDepth 100000 in
set_option maxHeartbeats 1000000 in
theorem eqLab1 (x0 : ByteArray) (x1 : ByteArray) (w : World) :
    Calls Tryd.prog 85 #[.agg #[.string x0, .string x1], .agg #[.string x0, .string x1]] w fun r w' => r = .returned (.bool true) ∧ Below w.heap.size w w' := by
  have e0 := txt_eq x0
  have e1 := txt_eq x1
  go_enter Tryd.func85, Tryd.ntmps85
  go_wp2_with (first
    | (with_reducible refine wpList_boxV (w := w) (by with_unfolding_all rfl) 116 (.tmp 0) (by with_unfolding_all rfl) (labv x0 x1) (by with_unfolding_all rfl) ?_; intro w1 hA1 hB1 hS1; have z1 : w.heap.size < w1.heap.size := (by omega); clear hS1)
    | (with_reducible refine wpList_boxV (w := w1) (by with_unfolding_all rfl) 116 (.tmp 1) (by with_unfolding_all rfl) (labv x0 x1) (by with_unfolding_all rfl) ?_; intro w2 hA2 hB2 hS2; clear hS2; have hA3 := hA1.below hB2 z1; have p0 := hA3.cell (k := 0) rfl; have q0 := hA2.cell (k := 0) rfl; have p1 := hA3.cell (k := 1) rfl; have q1 := hA2.cell (k := 1) rfl))
  go_ret
  exact ⟨rfl, hB1.trans (hB2.mono (by omega))⟩
structure Lab2 (w : World) (a1 a2 : Option Addr) (l : List LabV) (w' : World) : Prop where
  below : Below w.heap.size w w'
  s1 : LabAt w' a1 l
  s2 : LabAt w' a2 l
theorem Lab2.start {w : World} {a1 a2 : Option Addr} {l : List LabV} (h1 : LabAt w a1 l) (h2 : LabAt w a2 l) : Hid (Lab2 w a1 a2 l w) := ⟨Below.refl _ _, h1, h2⟩
theorem Lab2.call {w w' w2 : World} {a1 a2 : Option Addr} {l : List LabV} (h : Hid (Lab2 w a1 a2 l w')) (hb : Below w'.heap.size w' w2) : Hid (Lab2 w a1 a2 l w2) := ⟨h.out.below.trans (hb.mono h.out.below.size), h.out.s1.below hb, h.out.s2.below hb⟩
theorem Lab2.drew {w w' : World} {a1 a2 : Option Addr} {l : List LabV} (h : Hid (Lab2 w a1 a2 l w')) : Hid (Lab2 w a1 a2 l w'.drew) := ⟨h.out.below.drew, h.out.s1, h.out.s2⟩
theorem Lab2.all {w w' : World} {b1 o1 b2 o2 i : Nat} {l : List LabV} {x0 : ByteArray} {x1 : ByteArray} (hr : Hid (True → ∃ h : i < l.length, l[i].ky = x0 ∧ l[i].vl = x1)) (h : Hid (Lab2 w (some ⟨b1, o1, none⟩) (some ⟨b2, o2, none⟩) l w')) :
    w'.cell? ⟨b1, o1 + i * 2, none⟩ = some (.string x0) ∧ w'.cell? ⟨b1, o1 + i * 2 + 1, none⟩ = some (.string x1) ∧ w'.cell? ⟨b2, o2 + i * 2, none⟩ = some (.string x0) ∧ w'.cell? ⟨b2, o2 + i * 2 + 1, none⟩ = some (.string x1) ∧ Hid (Lab2 w (some ⟨b1, o1, none⟩) (some ⟨b2, o2, none⟩) l w') := by
  obtain ⟨hi, rfl, rfl⟩ := hr.out trivial
  obtain ⟨p0, p1⟩ := h.out.s1.here i hi
  obtain ⟨q0, q1⟩ := h.out.s2.here i hi
  exact ⟨p0, p1, q0, q1, h⟩
set_option maxRecDepth 100000 in
set_option maxHeartbeats 1000000 in
theorem eqLabS (a1 a2 : Option Addr) (c1 c2 n : Nat) (l : List LabV) (w : World) (hn : l.length = n) (h1 : LabAt w a1 l) (h2 : LabAt w a2 l) (hb : n ≤ maxLen) :
    Calls Tryd.prog 55 #[.slice a1 n c1, .slice a2 n c2] w fun e w' => e = .returned (.bool true) ∧ Below w.heap.size w w' := by
  unfold maxLen at hb
  have HN : Hid (l.length = n) := hn
  have HS0 := Lab2.start h1 h2
  clear h1 h2 hn
  go_enter Tryd.func55, Tryd.ntmps55
  go_wp2_with fail
  go_loopw [5] (fun i wr => ∃ k : Nat, i = .int .i64 (k : Int) ∧ k ≤ n ∧ Hid (Lab2 w a1 a2 l wr)) (fun i _ => n - (intOf i).toNat)
  case atStart => exact ⟨0, rfl, Nat.zero_le _, HS0⟩
  case round =>
    clear HS0
    obtain ⟨k, rfl, hk, HS⟩ := hrel
    by_cases hlt : k < n
    case neg =>
      obtain rfl : k = n := by omega
      go_wp2
      go_ret
      exact ⟨rfl, HS.out.below⟩
    have hkl : k < l.length := by have := HN.out; omega
    obtain ⟨b1, o1, rfl, hd1⟩ := HS.out.s1 k hkl
    clear hd1
    obtain ⟨b2, o2, rfl, hd2⟩ := HS.out.s2 k hkl
    clear hd2
    obtain ⟨x0, hx0⟩ : ∃ x, l[k].ky = x := ⟨_, rfl⟩
    obtain ⟨x1, hx1⟩ : ∃ x, l[k].vl = x := ⟨_, rfl⟩
    have HE : Hid (True → ∃ h : k < l.length, l[k].ky = x0 ∧ l[k].vl = x1) := fun _ => ⟨hkl, hx0, hx1⟩
    clear hx0 hx1 hkl
    have hT : ∀ w0, Calls Tryd.prog 85 #[.agg #[.string x0, .string x1], .agg #[.string x0, .string x1]] w0 fun r w' => r = .returned (.bool true) ∧ Below w0.heap.size w0 w' := fun w0 => eqLab1 x0 x1 w0
    have lk : (k : Int) < n := by omega
    have l0 : (0 : Int) ≤ k := by omega
    have HSd := Lab2.drew HS
    clear HS
    go_wp2_with fail
    go_region_held3 (fun w' => w'.cell? ⟨b1, o1 + k * 2, none⟩ = some (.string x0) ∧ w'.cell? ⟨b1, o1 + k * 2 + 1, none⟩ = some (.string x1) ∧ w'.cell? ⟨b2, o2 + k * 2, none⟩ = some (.string x0) ∧ w'.cell? ⟨b2, o2 + k * 2 + 1, none⟩ = some (.string x1) ∧ Hid (Lab2 w (some ⟨b1, o1, none⟩) (some ⟨b2, o2, none⟩) l w'))
      (first | exact Lab2.all HE HSd | exact Lab2.all HE (Lab2.call HSd h8))
      (first
        | (go_at_call 85; with_reducible refine (hT _).mono ?_; rintro r w8 ⟨rfl, h8⟩))
    all_goals
      have HS9 := Lab2.call HSd h8
      go_wp2_with fail
      go_roundw
      case rel => exact ⟨k + 1, by go_num, by omega, HS9⟩
      case measure => simp [intOf]; omega
structure LabZ (w : World) (a : Option Addr) (l : List LabV) (w' : World) : Prop where
  below : Below w.heap.size w w'
  at_ : LabAt w' a l
theorem LabZ.start {w : World} {a : Option Addr} {l : List LabV} (h : LabAt w a l) : Hid (LabZ w a l w) := ⟨Below.refl _ _, h⟩
theorem LabZ.call {w w' w2 : World} {a : Option Addr} {l : List LabV} (h : Hid (LabZ w a l w')) (hb : Below w'.heap.size w' w2) : Hid (LabZ w a l w2) := ⟨h.out.below.trans (hb.mono h.out.below.size), h.out.at_.below hb⟩
end Go.Proofs.YtchfpiadfmnphaaDoor

namespace Go.Proofs.YtchfpiadfmnphaaDoor
open Go.RowKit
set_option linter.unusedVariables false

def LayO (w : World) (base : Nat) (v : Value) (l : List LayV) : Prop := w.ownsRow base 85 2 v l.length (layL l).flatten
theorem LayO.row {w : World} {base n c : Nat} {a : Option Addr} {l : List LayV} (h : LayO w base (.slice a n c) l) : VR w a (layL l).flatten ∧ (∀ ad, a = some ad → base ≤ ad.block ∧ ad.block < w.heap.size) ∧ n = l.length := by
  rcases h.2 with ⟨h0, hn⟩ | ⟨g, cap, cur, hv, hbg, hg, h1, h2, h3, h4⟩
  · injection h0 with e1 e2 e3
    subst e1
    have : l = [] := List.eq_nil_of_length_eq_zero hn
    subst this
    exact ⟨fun hl => absurd rfl hl, fun ad e => (by cases e), e2⟩
  · injection hv with e1 e2 e3
    subst e1 e2
    have h' : w.ownsRow base 85 2 (.slice (some ⟨g, 0, none⟩) l.length c) l.length (layL l).flatten := h
    have hlen : (layL l).flatten.length = l.length * 2 := by rw [flatS_len (layL l) (layL_all l), layL_len]
    refine ⟨fun _ => ⟨g, rfl, ⟨fun j v hv => ?_, fun j hj => ?_⟩⟩, fun ad e => (by injection e with e; rw [← e]; exact ⟨hbg, (Array.getElem?_eq_some_iff.1 hg).1⟩), rfl⟩
    · have hj : j < l.length * 2 := by have := (List.getElem?_eq_some_iff.1 hv).1; rw [hlen] at this; exact this
      rw [Nat.zero_add, World.ownsRow.cellAt h' j hj, hv]
    · have hj2 : j < l.length * 2 := by rw [hlen] at hj; exact hj
      rw [Nat.zero_add, World.ownsRow.cellAt h' j hj2]
      have hjl : j < (layL l).flatten.length := by rw [hlen]; exact hj2
      rw [List.getElem?_eq_getElem hjl]
      exact ⟨rfl, h'.frozenAt j⟩
theorem VR.lay {w : World} {a : Option Addr} {l : List LayV} (h : VR w a (layL l).flatten) : LayAt w a l := fun i hi => by
  obtain ⟨g, rfl, hr⟩ := h (fun e => by have := congrArg List.length e; rw [flatS_len (layL l) (layL_all l), layL_len] at this; simp at this; omega)
  exact hr.lay i hi
theorem LayO.form {w : World} {base : Nat} {v : Value} {l : List LayV} (h : LayO w base v l) : ∃ a n c, l.length = n ∧ v = .slice a n c := by
  rcases h.2 with ⟨h0, hn⟩ | ⟨g, cap, cur, hv, hbg, hg, h1, h2, h3, h4⟩
  · exact ⟨none, 0, 0, hn, h0⟩
  · exact ⟨some ⟨g, 0, none⟩, _, cap, rfl, hv⟩
theorem wp_buildLay {o : Oper} {a : Act} {w : World} {K : Act → World → Prop} {Q : Exit → Act → World → Prop} (x : Operand) (ho : o.op = .buildSlice 38 1 #[(0, x)]) (x0 : ByteArray) (x1 : Int) (e0 : a.eval x = .agg #[.string x0, .int .i64 x1])
    (h : ∀ w', RowV w' w.heap.size (layv x0 x1) → Below w.heap.size w w' → K (a.put o.dst (.slice (some ⟨w.heap.size, 0, none⟩) 1 1)) w') : o.wp Tryd.prog a w K Q := by
  obtain ⟨i0, hi, hz0, hz1, hz2⟩ := info_parts Tryd.infLay
  refine wp_buildSlice 38 85 1 _ ho (layv x0 x1).toArray i0 _ Tryd.underlying38 hi hz0 (by rw [hz1]; omega) (by rw [hz1]; omega) ?_ (h _ (RowV.new w (layv x0 x1) 85) (below_alloc _ _))
  rw [hz1]
  simp only [List.map_toArray, List.map, e0]
  kernel_rfl
theorem wp_appendLay {W : World} {o : Oper} {a : Act} {K : Act → World → Prop} {Q : Exit → Act → World → Prop} (s x : Operand) (ho : o.op = .call { callee := .builtin .append, args := #[s, x], argTypes := #[38, 38] })
    (base : Nat) (v : Value) (l : List LayV) (y : LayV) (hs : a.eval s = v) (hown : LayO W base v l) (B : Nat) (hx : a.eval x = .slice (some ⟨B, 0, none⟩) 1 1) (hB : RowV W B (layv y.bl y.sz)) (hn : l.length ≤ 1000) (hbase : base ≤ W.heap.size)
    (h : ∀ v' w', LayO w' base v' (l ++ [y]) → W.grownBy w' v.ownBlock → (v'.ownBlock = v.ownBlock ∨ v'.ownBlock = some W.heap.size) → K (a.put o.dst v') w') : Oper.wp Tryd.prog o a W K Q := by
  obtain ⟨i0, hi, hz0, hz1, hz2⟩ := info_parts Tryd.infLay
  obtain ⟨v', w', hr, h2, h3, h4, h5⟩ := run_append_own_at (P := Tryd.prog) W base 38 o.type 85 i0 _ 2 24 Tryd.underlying38 hi hz0 hz1 hz2 rfl (by decide) v l.length (layL l).flatten hown ⟨B, 0, none⟩ 1 1 (layv y.bl y.sz) rfl
    (fun j u hj => by rw [Addr.add_lit]; have := hB.rng j u hj; exact this) (layv_one _ _) (by unfold maxLen; omega) (by omega) hbase
  unfold Oper.wp execOp
  simp only [ho, resolve, invoke, builtin, Sem.run_bind, Sem.run_pure, Result.andThen_ok, List.map_toArray, List.map_cons, List.map_nil, hs, hx, hr]
  refine h v' w' ?_ h3 h5
  unfold LayO
  have ea : (layL (l ++ [y])).flatten = (layL l).flatten ++ (layL [y]).flatten := by unfold layL; rw [List.map_append, List.flatten_append]
  rw [ea, List.length_append]
  have e : (layL [y]).flatten = layv y.bl y.sz := by unfold layL; simp
  rw [e]
  exact h2
theorem wpList_buildLay {ops : Array Oper} {rest : List Oper} {o : Oper} {a : Act} {w : World} {Q : Exit → Act → World → Prop} (hg : o.guard = none) (x : Operand) (ho : o.op = .buildSlice 38 1 #[(0, x)]) (x0 : ByteArray) (x1 : Int) (e0 : a.eval x = .agg #[.string x0, .int .i64 x1])
    (h : ∀ w', RowV w' w.heap.size (layv x0 x1) → Below w.heap.size w w' → wpList Tryd.prog ops Q rest (a.put o.dst (.slice (some ⟨w.heap.size, 0, none⟩) 1 1)) w') : wpList Tryd.prog ops Q (o :: rest) a w :=
  wpList_plain hg fun _ hK => wp_buildLay x ho x0 x1 e0 (fun w' h1 h2 => hK _ _ (h w' h1 h2))
theorem wpList_appendLay {ops : Array Oper} {rest : List Oper} {W : World} {o : Oper} {a : Act} {Q : Exit → Act → World → Prop} (hg : o.guard = none) (s x : Operand) (ho : o.op = .call { callee := .builtin .append, args := #[s, x], argTypes := #[38, 38] })
    (base : Nat) (v : Value) (l : List LayV) (y : LayV) (hs : a.eval s = v) (hown : LayO W base v l) (B : Nat) (hx : a.eval x = .slice (some ⟨B, 0, none⟩) 1 1) (hB : RowV W B (layv y.bl y.sz)) (hn : l.length ≤ 1000) (hbase : base ≤ W.heap.size)
    (h : ∀ v' w', LayO w' base v' (l ++ [y]) → W.grownBy w' v.ownBlock → (v'.ownBlock = v.ownBlock ∨ v'.ownBlock = some W.heap.size) → wpList Tryd.prog ops Q rest (a.put o.dst v') w') : wpList Tryd.prog ops Q (o :: rest) a W :=
  wpList_plain hg fun _ hK => wp_appendLay s x ho base v l y hs hown B hx hB hn hbase (fun v' w' h1 h2 h3 => hK _ _ (h v' w' h1 h2 h3))
end Go.Proofs.YtchfpiadfmnphaaDoor

namespace Go.Proofs.YtchfpiadfmnphaaDoor
open Go.RowKit
set_option linter.unusedVariables false

def LabO (w : World) (base : Nat) (v : Value) (l : List LabV) : Prop := w.ownsRow base 116 2 v l.length (labL l).flatten
theorem LabO.row {w : World} {base n c : Nat} {a : Option Addr} {l : List LabV} (h : LabO w base (.slice a n c) l) : VR w a (labL l).flatten ∧ (∀ ad, a = some ad → base ≤ ad.block ∧ ad.block < w.heap.size) ∧ n = l.length := by
  rcases h.2 with ⟨h0, hn⟩ | ⟨g, cap, cur, hv, hbg, hg, h1, h2, h3, h4⟩
  · injection h0 with e1 e2 e3
    subst e1
    have : l = [] := List.eq_nil_of_length_eq_zero hn
    subst this
    exact ⟨fun hl => absurd rfl hl, fun ad e => (by cases e), e2⟩
  · injection hv with e1 e2 e3
    subst e1 e2
    have h' : w.ownsRow base 116 2 (.slice (some ⟨g, 0, none⟩) l.length c) l.length (labL l).flatten := h
    have hlen : (labL l).flatten.length = l.length * 2 := by rw [flatS_len (labL l) (labL_all l), labL_len]
    refine ⟨fun _ => ⟨g, rfl, ⟨fun j v hv => ?_, fun j hj => ?_⟩⟩, fun ad e => (by injection e with e; rw [← e]; exact ⟨hbg, (Array.getElem?_eq_some_iff.1 hg).1⟩), rfl⟩
    · have hj : j < l.length * 2 := by have := (List.getElem?_eq_some_iff.1 hv).1; rw [hlen] at this; exact this
      rw [Nat.zero_add, World.ownsRow.cellAt h' j hj, hv]
    · have hj2 : j < l.length * 2 := by rw [hlen] at hj; exact hj
      rw [Nat.zero_add, World.ownsRow.cellAt h' j hj2]
      have hjl : j < (labL l).flatten.length := by rw [hlen]; exact hj2
      rw [List.getElem?_eq_getElem hjl]
      exact ⟨rfl, h'.frozenAt j⟩
theorem VR.lab {w : World} {a : Option Addr} {l : List LabV} (h : VR w a (labL l).flatten) : LabAt w a l := fun i hi => by
  obtain ⟨g, rfl, hr⟩ := h (fun e => by have := congrArg List.length e; rw [flatS_len (labL l) (labL_all l), labL_len] at this; simp at this; omega)
  exact hr.lab i hi
theorem LabO.form {w : World} {base : Nat} {v : Value} {l : List LabV} (h : LabO w base v l) : ∃ a n c, l.length = n ∧ v = .slice a n c := by
  rcases h.2 with ⟨h0, hn⟩ | ⟨g, cap, cur, hv, hbg, hg, h1, h2, h3, h4⟩
  · exact ⟨none, 0, 0, hn, h0⟩
  · exact ⟨some ⟨g, 0, none⟩, _, cap, rfl, hv⟩
theorem wp_buildLab {o : Oper} {a : Act} {w : World} {K : Act → World → Prop} {Q : Exit → Act → World → Prop} (x : Operand) (ho : o.op = .buildSlice 39 1 #[(0, x)]) (x0 : ByteArray) (x1 : ByteArray) (e0 : a.eval x = .agg #[.string x0, .string x1])
    (h : ∀ w', RowV w' w.heap.size (labv x0 x1) → Below w.heap.size w w' → K (a.put o.dst (.slice (some ⟨w.heap.size, 0, none⟩) 1 1)) w') : o.wp Tryd.prog a w K Q := by
  obtain ⟨i0, hi, hz0, hz1, hz2⟩ := info_parts Tryd.infLab
  refine wp_buildSlice 39 116 1 _ ho (labv x0 x1).toArray i0 _ Tryd.underlying39 hi hz0 (by rw [hz1]; omega) (by rw [hz1]; omega) ?_ (h _ (RowV.new w (labv x0 x1) 116) (below_alloc _ _))
  rw [hz1]
  simp only [List.map_toArray, List.map, e0]
  kernel_rfl
theorem wp_appendLab {W : World} {o : Oper} {a : Act} {K : Act → World → Prop} {Q : Exit → Act → World → Prop} (s x : Operand) (ho : o.op = .call { callee := .builtin .append, args := #[s, x], argTypes := #[39, 39] })
    (base : Nat) (v : Value) (l : List LabV) (y : LabV) (hs : a.eval s = v) (hown : LabO W base v l) (B : Nat) (hx : a.eval x = .slice (some ⟨B, 0, none⟩) 1 1) (hB : RowV W B (labv y.ky y.vl)) (hn : l.length ≤ 1000) (hbase : base ≤ W.heap.size)
    (h : ∀ v' w', LabO w' base v' (l ++ [y]) → W.grownBy w' v.ownBlock → (v'.ownBlock = v.ownBlock ∨ v'.ownBlock = some W.heap.size) → K (a.put o.dst v') w') : Oper.wp Tryd.prog o a W K Q := by
  obtain ⟨i0, hi, hz0, hz1, hz2⟩ := info_parts Tryd.infLab
  obtain ⟨v', w', hr, h2, h3, h4, h5⟩ := run_append_own_at (P := Tryd.prog) W base 39 o.type 116 i0 _ 2 32 Tryd.underlying39 hi hz0 hz1 hz2 rfl (by decide) v l.length (labL l).flatten hown ⟨B, 0, none⟩ 1 1 (labv y.ky y.vl) rfl
    (fun j u hj => by rw [Addr.add_lit]; have := hB.rng j u hj; exact this) (labv_one _ _) (by unfold maxLen; omega) (by omega) hbase
  unfold Oper.wp execOp
  simp only [ho, resolve, invoke, builtin, Sem.run_bind, Sem.run_pure, Result.andThen_ok, List.map_toArray, List.map_cons, List.map_nil, hs, hx, hr]
  refine h v' w' ?_ h3 h5
  unfold LabO
  have ea : (labL (l ++ [y])).flatten = (labL l).flatten ++ (labL [y]).flatten := by unfold labL; rw [List.map_append, List.flatten_append]
  rw [ea, List.length_append]
  have e : (labL [y]).flatten = labv y.ky y.vl := by unfold labL; simp
  rw [e]
  exact h2
theorem wpList_buildLab {ops : Array Oper} {rest : List Oper} {o : Oper} {a : Act} {w : World} {Q : Exit → Act → World → Prop} (hg : o.guard = none) (x : Operand) (ho : o.op = .buildSlice 39 1 #[(0, x)]) (x0 : ByteArray) (x1 : ByteArray) (e0 : a.eval x = .agg #[.string x0, .string x1])
    (h : ∀ w', RowV w' w.heap.size (labv x0 x1) → Below w.heap.size w w' → wpList Tryd.prog ops Q rest (a.put o.dst (.slice (some ⟨w.heap.size, 0, none⟩) 1 1)) w') : wpList Tryd.prog ops Q (o :: rest) a w :=
  wpList_plain hg fun _ hK => wp_buildLab x ho x0 x1 e0 (fun w' h1 h2 => hK _ _ (h w' h1 h2))
theorem wpList_appendLab {ops : Array Oper} {rest : List Oper} {W : World} {o : Oper} {a : Act} {Q : Exit → Act → World → Prop} (hg : o.guard = none) (s x : Operand) (ho : o.op = .call { callee := .builtin .append, args := #[s, x], argTypes := #[39, 39] })
    (base : Nat) (v : Value) (l : List LabV) (y : LabV) (hs : a.eval s = v) (hown : LabO W base v l) (B : Nat) (hx : a.eval x = .slice (some ⟨B, 0, none⟩) 1 1) (hB : RowV W B (labv y.ky y.vl)) (hn : l.length ≤ 1000) (hbase : base ≤ W.heap.size)
    (h : ∀ v' w', LabO w' base v' (l ++ [y]) → W.grownBy w' v.ownBlock → (v'.ownBlock = v.ownBlock ∨ v'.ownBlock = some W.heap.size) → wpList Tryd.prog ops Q rest (a.put o.dst v') w') : wpList Tryd.prog ops Q (o :: rest) a W :=
  wpList_plain hg fun _ hK => wp_appendLab s x ho base v l y hs hown B hx hB hn hbase (fun v' w' h1 h2 h3 => hK _ _ (h v' w' h1 h2 h3))
end Go.Proofs.YtchfpiadfmnphaaDoor
namespace Go.Proofs.YtchfpiadfmnphaaDoor
open Go.RowKit
set_option linter.unusedVariables false

def gvr (n b c : Int) : List Value := [.int .i64 n, .int .i64 b, .int .i64 c]
theorem gvr_ne (n b c : Int) : gvr n b c ≠ [] := by simp [gvr]
theorem gvr_one (n b c : Int) : ∀ y ∈ gvr n b c, y.oneCell' = true := by
  intro y hy
  simp [gvr] at hy
  rcases hy with h | h | h <;> (rw [h]; rfl)
theorem RowV.gvr {w : World} {g : Nat} {n b c : Int} (h : RowV w g (gvr n b c)) : w.cell? ⟨g, 0, none⟩ = some (.int .i64 n) ∧ w.cell? ⟨g, 1, none⟩ = some (.int .i64 b) ∧ w.cell? ⟨g, 2, none⟩ = some (.int .i64 c) := ⟨h.cell (k := 0) rfl, h.cell (k := 1) rfl, h.cell (k := 2) rfl⟩
theorem Tryd.infoNo : (Tryd.prog.info? 145).map (fun i => i.zero) = some (some (.agg (Go.Proofs.YtchfpiadfmnphaaDoor.gvr 0 0 0).toArray)) := by kernel_rfl
theorem Tryd.sizeNo : (Tryd.prog.info? 145).map (·.size) = some 3 := by kernel_rfl
set_option maxRecDepth 100000 in
set_option maxHeartbeats 1000000 in
theorem spNumBad (g p : Nat) (t : ByteArray) (w : World) (hs : t.size ≤ maxLen) (hp : p ≤ t.size) (bad : Bool) (hb : bad = true ∨ numO t p = none) (h : RowV w g (srv t p bad)) :
    Calls Tryd.prog 73 #[.pointer (some ⟨g, 0, none⟩)] w fun e w' => e = .returned (.int .i64 0) ∧ RowV w' g (srv t p true) ∧ Only g w w' := by
  obtain ⟨n, b, c, hg, hc⟩ : ∃ n b c, getN t p = ⟨n, b, c⟩ ∧ (bad = true ∨ ¬ c = 0) := by
    rcases hb with hb | hb
    · exact ⟨(getN t p).n, (getN t p).behind, (getN t p).code, rfl, Or.inl hb⟩
    · obtain ⟨c, hc, hg⟩ := numO_none hb
      exact ⟨0, 0, c, hg, Or.inr hc⟩
  have hN : ∀ w0, Calls Tryd.prog 99 #[.string t, .int .i64 (p : Int)] w0 fun e w' => e = .returned (.agg #[.int .i64 n, .int .i64 b, .int .i64 c]) ∧ Below w0.heap.size w0 w' := fun w0 => by
    have := specGet t p w0 hs (i64n (by unfold maxLen at hs; omega))
    rw [hg] at this
    exact this
  clear hg hb
  cases bad with
  | true =>
    go_enter Tryd.func73, Tryd.ntmps73
    go_wp2_with fail
    refine wp_region_held_drew (S := fun w' => w'.cell? ⟨g, 0, none⟩ = some (.string t) ∧ w'.cell? ⟨g, 1, none⟩ = some (.int .i64 (p : Int)) ∧ w'.cell? ⟨g, 2, none⟩ = some (.bool true)) (by kernel_rfl) h.drew.sr (fun hHeld => ?_)
    refine wpAnyH_take (i := 0) (oi := ⟨_, _, _, _, _, _⟩) (v := .pointer (some ⟨g, 0, none⟩)) rfl (by kernel_rfl) (by kernel_rfl) (by kernel_rfl) (fun _ _ _ h => h) (Or.inl ⟨wanted_free rfl, fun w' hSw => ?_⟩) hHeld ?_
    · obtain ⟨s0, s1, s2⟩ := hSw
      go_simp
    try simp only [Act.put, List.setIfInBounds_toArray, List.set_cons_zero, List.set_cons_succ]
    refine wpAnyH_take (i := 1) (oi := ⟨_, _, _, _, _, _⟩) (v := .pointer (some ⟨g, 0, none⟩)) rfl (by kernel_rfl) (by kernel_rfl) (by kernel_rfl) (fun _ _ _ h => h) (Or.inl ⟨wanted_free rfl, fun w' hSw => ?_⟩) hHeld ?_
    · obtain ⟨s0, s1, s2⟩ := hSw
      go_simp
    try simp only [Act.put, List.setIfInBounds_toArray, List.set_cons_zero, List.set_cons_succ]
    refine wpAnyH_take (i := 2) (oi := ⟨_, _, _, _, _, _⟩) (v := .pointer (some ⟨g, 0, none⟩)) rfl (by kernel_rfl) (by kernel_rfl) (by kernel_rfl) (fun _ _ _ h => h) (Or.inl ⟨wanted_free rfl, fun w' hSw => ?_⟩) hHeld ?_
    · obtain ⟨s0, s1, s2⟩ := hSw
      go_simp
    try simp only [Act.put, List.setIfInBounds_toArray, List.set_cons_zero, List.set_cons_succ]
    refine wpAnyH_take (i := 3) (oi := ⟨_, _, _, _, _, _⟩) (v := .string t) rfl (by kernel_rfl) (by kernel_rfl) (by kernel_rfl) (fun _ _ _ h => h) (Or.inl ⟨wanted_free rfl, fun w' hSw => ?_⟩) hHeld ?_
    · obtain ⟨s0, s1, s2⟩ := hSw
      go_simp
    try simp only [Act.put, List.setIfInBounds_toArray, List.set_cons_zero, List.set_cons_succ]
    refine wpAnyH_take (i := 4) (oi := ⟨_, _, _, _, _, _⟩) (v := .pointer (some ⟨g, 0, none⟩)) rfl (by kernel_rfl) (by kernel_rfl) (by kernel_rfl) (fun _ _ _ h => h) (Or.inl ⟨wanted_free rfl, fun w' hSw => ?_⟩) hHeld ?_
    · obtain ⟨s0, s1, s2⟩ := hSw
      go_simp
    try simp only [Act.put, List.setIfInBounds_toArray, List.set_cons_zero, List.set_cons_succ]
    refine wpAnyH_take (i := 5) (oi := ⟨_, _, _, _, _, _⟩) (v := .pointer (some ⟨g, 0, none⟩)) rfl (by kernel_rfl) (by kernel_rfl) (by kernel_rfl) (fun _ _ _ h => h) (Or.inl ⟨wanted_free rfl, fun w' hSw => ?_⟩) hHeld ?_
    · obtain ⟨s0, s1, s2⟩ := hSw
      go_simp
    try simp only [Act.put, List.setIfInBounds_toArray, List.set_cons_zero, List.set_cons_succ]
    refine wpAnyH_take (i := 6) (oi := ⟨_, _, _, _, _, _⟩) (v := .pointer (some ⟨g, 1, none⟩)) rfl (by kernel_rfl) (by kernel_rfl) (by kernel_rfl) (fun _ _ _ h => h) (Or.inl ⟨wanted_free rfl, fun w' hSw => ?_⟩) hHeld ?_
    · obtain ⟨s0, s1, s2⟩ := hSw
      go_simp
    try simp only [Act.put, List.setIfInBounds_toArray, List.set_cons_zero, List.set_cons_succ]
    refine wpAnyH_take (i := 7) (oi := ⟨_, _, _, _, _, _⟩) (v := .int .i64 (p : Int)) rfl (by kernel_rfl) (by kernel_rfl) (by kernel_rfl) (fun _ _ _ h => h) (Or.inl ⟨wanted_free rfl, fun w' hSw => ?_⟩) hHeld ?_
    · obtain ⟨s0, s1, s2⟩ := hSw
      go_simp
    try simp only [Act.put, List.setIfInBounds_toArray, List.set_cons_zero, List.set_cons_succ]
    have HKW := KpM.drew (KpM.start h (srv_ne _ _ _))
    generalize w.drew = W at *
    clear hHeld h
    refine wpAnyH_ready (rs := [8, 9]) (by kernel_rfl) (by simp) (AllReadyH.cons (o := ⟨_, _, _, _, _, _⟩) rfl (fun K hK => ?_) (AllReadyH.cons (o := ⟨_, _, _, _, _, _⟩) rfl (fun K hK => ?_) AllReadyH.nil))
    · as_aux_lemma =>
      rewrite [if_pos (wanted_free rfl)]
      go_simp
      refine (hN W).mono ?_
      rintro e Wc ⟨rfl, hBWc⟩
      have HKWc := KpM.call HKW hBWc
      go_wp2_with fail
      refine hK.out _ _ (KpM.rowH HKWc).sr (fun _ => ?_)
      clear hK K
      try simp only [Act.put, List.setIfInBounds_toArray, List.set_cons_zero, List.set_cons_succ]
      refine wpAnyH_ready (rs := [9]) (by kernel_rfl) (by simp) (AllReadyH.cons (o := ⟨_, _, _, _, _, _⟩) rfl (fun K hK => ?_) AllReadyH.nil)
      rewrite [if_pos (wanted_free rfl)]
      with_reducible refine wp_allocV 145 (by with_unfolding_all rfl) (gvr 0 0 0) Tryd.infoNo ?_
      intro Wca hAWca hBWca
      have HKWca := KpM.new HKWc hAWca (gvr_ne _ _ _) hBWca
      refine hK.out _ _ (KpM.rowH HKWca).sr (fun _ => ?_)
      clear hK K
      try simp only [Act.put, List.setIfInBounds_toArray, List.set_cons_zero, List.set_cons_succ]
      refine wpAnyH_ready (rs := [10]) (by kernel_rfl) (by simp) (AllReadyH.cons (o := ⟨_, _, _, _, _, _⟩) rfl (fun K hK => ?_) AllReadyH.nil)
      rewrite [if_pos (wanted_free rfl)]
      with_reducible refine wp_storeV 145 (.tmp 3) (.tmp 12) (by with_unfolding_all rfl) Wc.heap.size (gvr 0 0 0) (gvr n b c) (by with_unfolding_all rfl) (by with_unfolding_all rfl) (KpM.get HKWca (List.mem_cons_self ..)) 3 Tryd.sizeNo (by with_unfolding_all rfl) (by with_unfolding_all rfl) (gvr_one _ _ _) ?_
      intro wf hAf hOf
      have HKf := KpM.put HKWca (fun x hx => by cases hx) hAf (gvr_ne _ _ _) hOf
      refine hK.out _ _ (KpM.rowH HKf).sr (fun _ => ?_)
      clear hK K
      refine wpAnyH_done (by kernel_rfl) ?_ _
      generalize Wc.heap.size = GA at *
      obtain ⟨r0, r1, r2⟩ := (KpM.rowH HKf).sr
      obtain ⟨x0, x1, x2⟩ := (KpM.get HKf (List.mem_cons_self ..)).gvr
      clear HKW HKWc HKWca
      go_wp2_with (first
        | (with_reducible refine wpList_cellB (w := wf) (by with_unfolding_all rfl) 4 (.tmp 24) (.const (.bool true)) (by with_unfolding_all rfl) g 2 (srv t p true) (srv t p true) true (by with_unfolding_all rfl) (by with_unfolding_all rfl) Tryd.siz1B (KpM.rowH HKf) (by simp [srv]) (by with_unfolding_all rfl) ?_; intro wz hAz hBz hFz hSz; have Oz := HKf.out.only.trans (Only.set hBz hFz hSz)))
      go_ret
      exact ⟨rfl, hAz, Oz⟩
    · as_aux_lemma =>
      rewrite [if_pos (wanted_free rfl)]
      with_reducible refine wp_allocV 145 (by with_unfolding_all rfl) (gvr 0 0 0) Tryd.infoNo ?_
      intro Wa hAWa hBWa
      have HKWa := KpM.new HKW hAWa (gvr_ne _ _ _) hBWa
      refine hK.out _ _ (KpM.rowH HKWa).sr (fun _ => ?_)
      clear hK K
      try simp only [Act.put, List.setIfInBounds_toArray, List.set_cons_zero, List.set_cons_succ]
      refine wpAnyH_ready (rs := [8]) (by kernel_rfl) (by simp) (AllReadyH.cons (o := ⟨_, _, _, _, _, _⟩) rfl (fun K hK => ?_) AllReadyH.nil)
      rewrite [if_pos (wanted_free rfl)]
      go_simp
      refine (hN Wa).mono ?_
      rintro e Wac ⟨rfl, hBWac⟩
      have HKWac := KpM.call HKWa hBWac
      go_wp2_with fail
      refine hK.out _ _ (KpM.rowH HKWac).sr (fun _ => ?_)
      clear hK K
      try simp only [Act.put, List.setIfInBounds_toArray, List.set_cons_zero, List.set_cons_succ]
      refine wpAnyH_ready (rs := [10]) (by kernel_rfl) (by simp) (AllReadyH.cons (o := ⟨_, _, _, _, _, _⟩) rfl (fun K hK => ?_) AllReadyH.nil)
      rewrite [if_pos (wanted_free rfl)]
      with_reducible refine wp_storeV 145 (.tmp 3) (.tmp 12) (by with_unfolding_all rfl) W.heap.size (gvr 0 0 0) (gvr n b c) (by with_unfolding_all rfl) (by with_unfolding_all rfl) (KpM.get HKWac (List.mem_cons_self ..)) 3 Tryd.sizeNo (by with_unfolding_all rfl) (by with_unfolding_all rfl) (gvr_one _ _ _) ?_
      intro wf hAf hOf
      have HKf := KpM.put HKWac (fun x hx => by cases hx) hAf (gvr_ne _ _ _) hOf
      refine hK.out _ _ (KpM.rowH HKf).sr (fun _ => ?_)
      clear hK K
      refine wpAnyH_done (by kernel_rfl) ?_ _
      generalize W.heap.size = GA at *
      obtain ⟨r0, r1, r2⟩ := (KpM.rowH HKf).sr
      obtain ⟨x0, x1, x2⟩ := (KpM.get HKf (List.mem_cons_self ..)).gvr
      clear HKW HKWa HKWac
      go_wp2_with (first
        | (with_reducible refine wpList_cellB (w := wf) (by with_unfolding_all rfl) 4 (.tmp 24) (.const (.bool true)) (by with_unfolding_all rfl) g 2 (srv t p true) (srv t p true) true (by with_unfolding_all rfl) (by with_unfolding_all rfl) Tryd.siz1B (KpM.rowH HKf) (by simp [srv]) (by with_unfolding_all rfl) ?_; intro wz hAz hBz hFz hSz; have Oz := HKf.out.only.trans (Only.set hBz hFz hSz)))
      go_ret
      exact ⟨rfl, hAz, Oz⟩
  | false =>
    have hc' : ¬ c = 0 := hc.elim (fun h => by cases h) id
    have e1 : (c == 0) = false := beq_eq_false_iff_ne.2 hc'
    clear hc
    go_enter Tryd.func73, Tryd.ntmps73
    go_wp2_with fail
    refine wp_region_held_drew (S := fun w' => w'.cell? ⟨g, 0, none⟩ = some (.string t) ∧ w'.cell? ⟨g, 1, none⟩ = some (.int .i64 (p : Int)) ∧ w'.cell? ⟨g, 2, none⟩ = some (.bool false)) (by kernel_rfl) h.drew.sr (fun hHeld => ?_)
    refine wpAnyH_take (i := 0) (oi := ⟨_, _, _, _, _, _⟩) (v := .pointer (some ⟨g, 0, none⟩)) rfl (by kernel_rfl) (by kernel_rfl) (by kernel_rfl) (fun _ _ _ h => h) (Or.inl ⟨wanted_free rfl, fun w' hSw => ?_⟩) hHeld ?_
    · obtain ⟨s0, s1, s2⟩ := hSw
      go_simp
    try simp only [Act.put, List.setIfInBounds_toArray, List.set_cons_zero, List.set_cons_succ]
    refine wpAnyH_take (i := 1) (oi := ⟨_, _, _, _, _, _⟩) (v := .pointer (some ⟨g, 0, none⟩)) rfl (by kernel_rfl) (by kernel_rfl) (by kernel_rfl) (fun _ _ _ h => h) (Or.inl ⟨wanted_free rfl, fun w' hSw => ?_⟩) hHeld ?_
    · obtain ⟨s0, s1, s2⟩ := hSw
      go_simp
    try simp only [Act.put, List.setIfInBounds_toArray, List.set_cons_zero, List.set_cons_succ]
    refine wpAnyH_take (i := 2) (oi := ⟨_, _, _, _, _, _⟩) (v := .pointer (some ⟨g, 0, none⟩)) rfl (by kernel_rfl) (by kernel_rfl) (by kernel_rfl) (fun _ _ _ h => h) (Or.inl ⟨wanted_free rfl, fun w' hSw => ?_⟩) hHeld ?_
    · obtain ⟨s0, s1, s2⟩ := hSw
      go_simp
    try simp only [Act.put, List.setIfInBounds_toArray, List.set_cons_zero, List.set_cons_succ]
    refine wpAnyH_take (i := 3) (oi := ⟨_, _, _, _, _, _⟩) (v := .string t) rfl (by kernel_rfl) (by kernel_rfl) (by kernel_rfl) (fun _ _ _ h => h) (Or.inl ⟨wanted_free rfl, fun w' hSw => ?_⟩) hHeld ?_
    · obtain ⟨s0, s1, s2⟩ := hSw
      go_simp
    try simp only [Act.put, List.setIfInBounds_toArray, List.set_cons_zero, List.set_cons_succ]
    refine wpAnyH_take (i := 4) (oi := ⟨_, _, _, _, _, _⟩) (v := .pointer (some ⟨g, 0, none⟩)) rfl (by kernel_rfl) (by kernel_rfl) (by kernel_rfl) (fun _ _ _ h => h) (Or.inl ⟨wanted_free rfl, fun w' hSw => ?_⟩) hHeld ?_
    · obtain ⟨s0, s1, s2⟩ := hSw
      go_simp
    try simp only [Act.put, List.setIfInBounds_toArray, List.set_cons_zero, List.set_cons_succ]
    refine wpAnyH_take (i := 5) (oi := ⟨_, _, _, _, _, _⟩) (v := .pointer (some ⟨g, 0, none⟩)) rfl (by kernel_rfl) (by kernel_rfl) (by kernel_rfl) (fun _ _ _ h => h) (Or.inl ⟨wanted_free rfl, fun w' hSw => ?_⟩) hHeld ?_
    · obtain ⟨s0, s1, s2⟩ := hSw
      go_simp
    try simp only [Act.put, List.setIfInBounds_toArray, List.set_cons_zero, List.set_cons_succ]
    refine wpAnyH_take (i := 6) (oi := ⟨_, _, _, _, _, _⟩) (v := .pointer (some ⟨g, 1, none⟩)) rfl (by kernel_rfl) (by kernel_rfl) (by kernel_rfl) (fun _ _ _ h => h) (Or.inl ⟨wanted_free rfl, fun w' hSw => ?_⟩) hHeld ?_
    · obtain ⟨s0, s1, s2⟩ := hSw
      go_simp
    try simp only [Act.put, List.setIfInBounds_toArray, List.set_cons_zero, List.set_cons_succ]
    refine wpAnyH_take (i := 7) (oi := ⟨_, _, _, _, _, _⟩) (v := .int .i64 (p : Int)) rfl (by kernel_rfl) (by kernel_rfl) (by kernel_rfl) (fun _ _ _ h => h) (Or.inl ⟨wanted_free rfl, fun w' hSw => ?_⟩) hHeld ?_
    · obtain ⟨s0, s1, s2⟩ := hSw
      go_simp
    try simp only [Act.put, List.setIfInBounds_toArray, List.set_cons_zero, List.set_cons_succ]
    have HKW := KpM.drew (KpM.start h (srv_ne _ _ _))
    generalize w.drew = W at *
    clear hHeld h
    refine wpAnyH_ready (rs := [8, 9]) (by kernel_rfl) (by simp) (AllReadyH.cons (o := ⟨_, _, _, _, _, _⟩) rfl (fun K hK => ?_) (AllReadyH.cons (o := ⟨_, _, _, _, _, _⟩) rfl (fun K hK => ?_) AllReadyH.nil))
    · as_aux_lemma =>
      rewrite [if_pos (wanted_free rfl)]
      go_simp
      refine (hN W).mono ?_
      rintro e Wc ⟨rfl, hBWc⟩
      have HKWc := KpM.call HKW hBWc
      go_wp2_with fail
      refine hK.out _ _ (KpM.rowH HKWc).sr (fun _ => ?_)
      clear hK K
      try simp only [Act.put, List.setIfInBounds_toArray, List.set_cons_zero, List.set_cons_succ]
      refine wpAnyH_ready (rs := [9]) (by kernel_rfl) (by simp) (AllReadyH.cons (o := ⟨_, _, _, _, _, _⟩) rfl (fun K hK => ?_) AllReadyH.nil)
      rewrite [if_pos (wanted_free rfl)]
      with_reducible refine wp_allocV 145 (by with_unfolding_all rfl) (gvr 0 0 0) Tryd.infoNo ?_
      intro Wca hAWca hBWca
      have HKWca := KpM.new HKWc hAWca (gvr_ne _ _ _) hBWca
      refine hK.out _ _ (KpM.rowH HKWca).sr (fun _ => ?_)
      clear hK K
      try simp only [Act.put, List.setIfInBounds_toArray, List.set_cons_zero, List.set_cons_succ]
      refine wpAnyH_ready (rs := [10]) (by kernel_rfl) (by simp) (AllReadyH.cons (o := ⟨_, _, _, _, _, _⟩) rfl (fun K hK => ?_) AllReadyH.nil)
      rewrite [if_pos (wanted_free rfl)]
      with_reducible refine wp_storeV 145 (.tmp 3) (.tmp 12) (by with_unfolding_all rfl) Wc.heap.size (gvr 0 0 0) (gvr n b c) (by with_unfolding_all rfl) (by with_unfolding_all rfl) (KpM.get HKWca (List.mem_cons_self ..)) 3 Tryd.sizeNo (by with_unfolding_all rfl) (by with_unfolding_all rfl) (gvr_one _ _ _) ?_
      intro wf hAf hOf
      have HKf := KpM.put HKWca (fun x hx => by cases hx) hAf (gvr_ne _ _ _) hOf
      refine hK.out _ _ (KpM.rowH HKf).sr (fun _ => ?_)
      clear hK K
      refine wpAnyH_done (by kernel_rfl) ?_ _
      generalize Wc.heap.size = GA at *
      obtain ⟨r0, r1, r2⟩ := (KpM.rowH HKf).sr
      obtain ⟨x0, x1, x2⟩ := (KpM.get HKf (List.mem_cons_self ..)).gvr
      clear HKW HKWc HKWca
      go_wp2_with (first
        | (with_reducible refine wpList_cellB (w := wf) (by with_unfolding_all rfl) 4 (.tmp 24) (.const (.bool true)) (by with_unfolding_all rfl) g 2 (srv t p false) (srv t p true) true (by with_unfolding_all rfl) (by with_unfolding_all rfl) Tryd.siz1B (KpM.rowH HKf) (by simp [srv]) (by with_unfolding_all rfl) ?_; intro wz hAz hBz hFz hSz; have Oz := HKf.out.only.trans (Only.set hBz hFz hSz)))
      go_ret
      exact ⟨rfl, hAz, Oz⟩
    · as_aux_lemma =>
      rewrite [if_pos (wanted_free rfl)]
      with_reducible refine wp_allocV 145 (by with_unfolding_all rfl) (gvr 0 0 0) Tryd.infoNo ?_
      intro Wa hAWa hBWa
      have HKWa := KpM.new HKW hAWa (gvr_ne _ _ _) hBWa
      refine hK.out _ _ (KpM.rowH HKWa).sr (fun _ => ?_)
      clear hK K
      try simp only [Act.put, List.setIfInBounds_toArray, List.set_cons_zero, List.set_cons_succ]
      refine wpAnyH_ready (rs := [8]) (by kernel_rfl) (by simp) (AllReadyH.cons (o := ⟨_, _, _, _, _, _⟩) rfl (fun K hK => ?_) AllReadyH.nil)
      rewrite [if_pos (wanted_free rfl)]
      go_simp
      refine (hN Wa).mono ?_
      rintro e Wac ⟨rfl, hBWac⟩
      have HKWac := KpM.call HKWa hBWac
      go_wp2_with fail
      refine hK.out _ _ (KpM.rowH HKWac).sr (fun _ => ?_)
      clear hK K
      try simp only [Act.put, List.setIfInBounds_toArray, List.set_cons_zero, List.set_cons_succ]
      refine wpAnyH_ready (rs := [10]) (by kernel_rfl) (by simp) (AllReadyH.cons (o := ⟨_, _, _, _, _, _⟩) rfl (fun K hK => ?_) AllReadyH.nil)
      rewrite [if_pos (wanted_free rfl)]
      with_reducible refine wp_storeV 145 (.tmp 3) (.tmp 12) (by with_unfolding_all rfl) W.heap.size (gvr 0 0 0) (gvr n b c) (by with_unfolding_all rfl) (by with_unfolding_all rfl) (KpM.get HKWac (List.mem_cons_self ..)) 3 Tryd.sizeNo (by with_unfolding_all rfl) (by with_unfolding_all rfl) (gvr_one _ _ _) ?_
      intro wf hAf hOf
      have HKf := KpM.put HKWac (fun x hx => by cases hx) hAf (gvr_ne _ _ _) hOf
      refine hK.out _ _ (KpM.rowH HKf).sr (fun _ => ?_)
      clear hK K
      refine wpAnyH_done (by kernel_rfl) ?_ _
      generalize W.heap.size = GA at *
      obtain ⟨r0, r1, r2⟩ := (KpM.rowH HKf).sr
      obtain ⟨x0, x1, x2⟩ := (KpM.get HKf (List.mem_cons_self ..)).gvr
      clear HKW HKWa HKWac
      go_wp2_with (first
        | (with_reducible refine wpList_cellB (w := wf) (by with_unfolding_all rfl) 4 (.tmp 24) (.const (.bool true)) (by with_unfolding_all rfl) g 2 (srv t p false) (srv t p true) true (by with_unfolding_all rfl) (by with_unfolding_all rfl) Tryd.siz1B (KpM.rowH HKf) (by simp [srv]) (by with_unfolding_all rfl) ?_; intro wz hAz hBz hFz hSz; have Oz := HKf.out.only.trans (Only.set hBz hFz hSz)))
      go_ret
      exact ⟨rfl, hAz, Oz⟩
set_option maxRecDepth 100000 in
set_option maxHeartbeats 1000000 in
theorem spNumYes (g p : Nat) (t : ByteArray) (w : World) (hs : t.size ≤ maxLen) (hp : p ≤ t.size) (b : Nat) (n : Int) (hn : numO t p = some (n, b)) (h : RowV w g (srv t p false)) :
    Calls Tryd.prog 73 #[.pointer (some ⟨g, 0, none⟩)] w fun e w' => e = .returned (.int .i64 n) ∧ RowV w' g (srv t b false) ∧ Only g w w' := by
  obtain ⟨hg, -, -⟩ := numO_some hn
  have hN : ∀ w0, Calls Tryd.prog 99 #[.string t, .int .i64 (p : Int)] w0 fun e w' => e = .returned (.agg #[.int .i64 n, .int .i64 (b : Int), .int .i64 0]) ∧ Below w0.heap.size w0 w' := fun w0 => by
    have := specGet t p w0 hs (i64n (by unfold maxLen at hs; omega))
    rw [hg] at this
    exact this
  clear hg hn
  go_enter Tryd.func73, Tryd.ntmps73
  go_wp2_with fail
  refine wp_region_held_drew (S := fun w' => w'.cell? ⟨g, 0, none⟩ = some (.string t) ∧ w'.cell? ⟨g, 1, none⟩ = some (.int .i64 (p : Int)) ∧ w'.cell? ⟨g, 2, none⟩ = some (.bool false)) (by kernel_rfl) h.drew.sr (fun hHeld => ?_)
  refine wpAnyH_take (i := 0) (oi := ⟨_, _, _, _, _, _⟩) (v := .pointer (some ⟨g, 0, none⟩)) rfl (by kernel_rfl) (by kernel_rfl) (by kernel_rfl) (fun _ _ _ h => h) (Or.inl ⟨wanted_free rfl, fun w' hSw => ?_⟩) hHeld ?_
  · obtain ⟨s0, s1, s2⟩ := hSw
    go_simp
  try simp only [Act.put, List.setIfInBounds_toArray, List.set_cons_zero, List.set_cons_succ]
  refine wpAnyH_take (i := 1) (oi := ⟨_, _, _, _, _, _⟩) (v := .pointer (some ⟨g, 0, none⟩)) rfl (by kernel_rfl) (by kernel_rfl) (by kernel_rfl) (fun _ _ _ h => h) (Or.inl ⟨wanted_free rfl, fun w' hSw => ?_⟩) hHeld ?_
  · obtain ⟨s0, s1, s2⟩ := hSw
    go_simp
  try simp only [Act.put, List.setIfInBounds_toArray, List.set_cons_zero, List.set_cons_succ]
  refine wpAnyH_take (i := 2) (oi := ⟨_, _, _, _, _, _⟩) (v := .pointer (some ⟨g, 0, none⟩)) rfl (by kernel_rfl) (by kernel_rfl) (by kernel_rfl) (fun _ _ _ h => h) (Or.inl ⟨wanted_free rfl, fun w' hSw => ?_⟩) hHeld ?_
  · obtain ⟨s0, s1, s2⟩ := hSw
    go_simp
  try simp only [Act.put, List.setIfInBounds_toArray, List.set_cons_zero, List.set_cons_succ]
  refine wpAnyH_take (i := 3) (oi := ⟨_, _, _, _, _, _⟩) (v := .string t) rfl (by kernel_rfl) (by kernel_rfl) (by kernel_rfl) (fun _ _ _ h => h) (Or.inl ⟨wanted_free rfl, fun w' hSw => ?_⟩) hHeld ?_
  · obtain ⟨s0, s1, s2⟩ := hSw
    go_simp
  try simp only [Act.put, List.setIfInBounds_toArray, List.set_cons_zero, List.set_cons_succ]
  refine wpAnyH_take (i := 4) (oi := ⟨_, _, _, _, _, _⟩) (v := .pointer (some ⟨g, 0, none⟩)) rfl (by kernel_rfl) (by kernel_rfl) (by kernel_rfl) (fun _ _ _ h => h) (Or.inl ⟨wanted_free rfl, fun w' hSw => ?_⟩) hHeld ?_
  · obtain ⟨s0, s1, s2⟩ := hSw
    go_simp
  try simp only [Act.put, List.setIfInBounds_toArray, List.set_cons_zero, List.set_cons_succ]
  refine wpAnyH_take (i := 5) (oi := ⟨_, _, _, _, _, _⟩) (v := .pointer (some ⟨g, 0, none⟩)) rfl (by kernel_rfl) (by kernel_rfl) (by kernel_rfl) (fun _ _ _ h => h) (Or.inl ⟨wanted_free rfl, fun w' hSw => ?_⟩) hHeld ?_
  · obtain ⟨s0, s1, s2⟩ := hSw
    go_simp
  try simp only [Act.put, List.setIfInBounds_toArray, List.set_cons_zero, List.set_cons_succ]
  refine wpAnyH_take (i := 6) (oi := ⟨_, _, _, _, _, _⟩) (v := .pointer (some ⟨g, 1, none⟩)) rfl (by kernel_rfl) (by kernel_rfl) (by kernel_rfl) (fun _ _ _ h => h) (Or.inl ⟨wanted_free rfl, fun w' hSw => ?_⟩) hHeld ?_
  · obtain ⟨s0, s1, s2⟩ := hSw
    go_simp
  try simp only [Act.put, List.setIfInBounds_toArray, List.set_cons_zero, List.set_cons_succ]
  refine wpAnyH_take (i := 7) (oi := ⟨_, _, _, _, _, _⟩) (v := .int .i64 (p : Int)) rfl (by kernel_rfl) (by kernel_rfl) (by kernel_rfl) (fun _ _ _ h => h) (Or.inl ⟨wanted_free rfl, fun w' hSw => ?_⟩) hHeld ?_
  · obtain ⟨s0, s1, s2⟩ := hSw
    go_simp
  try simp only [Act.put, List.setIfInBounds_toArray, List.set_cons_zero, List.set_cons_succ]
  have HKW := KpM.drew (KpM.start h (srv_ne _ _ _))
  generalize w.drew = W at *
  clear hHeld h
  refine wpAnyH_ready (rs := [8, 9]) (by kernel_rfl) (by simp) (AllReadyH.cons (o := ⟨_, _, _, _, _, _⟩) rfl (fun K hK => ?_) (AllReadyH.cons (o := ⟨_, _, _, _, _, _⟩) rfl (fun K hK => ?_) AllReadyH.nil))
  · as_aux_lemma =>
    rewrite [if_pos (wanted_free rfl)]
    go_simp
    refine (hN W).mono ?_
    rintro e Wc ⟨rfl, hBWc⟩
    have HKWc := KpM.call HKW hBWc
    go_wp2_with fail
    refine hK.out _ _ (KpM.rowH HKWc).sr (fun _ => ?_)
    clear hK K
    try simp only [Act.put, List.setIfInBounds_toArray, List.set_cons_zero, List.set_cons_succ]
    refine wpAnyH_ready (rs := [9]) (by kernel_rfl) (by simp) (AllReadyH.cons (o := ⟨_, _, _, _, _, _⟩) rfl (fun K hK => ?_) AllReadyH.nil)
    rewrite [if_pos (wanted_free rfl)]
    with_reducible refine wp_allocV 145 (by with_unfolding_all rfl) (gvr 0 0 0) Tryd.infoNo ?_
    intro Wca hAWca hBWca
    have HKWca := KpM.new HKWc hAWca (gvr_ne _ _ _) hBWca
    refine hK.out _ _ (KpM.rowH HKWca).sr (fun _ => ?_)
    clear hK K
    try simp only [Act.put, List.setIfInBounds_toArray, List.set_cons_zero, List.set_cons_succ]
    refine wpAnyH_ready (rs := [10]) (by kernel_rfl) (by simp) (AllReadyH.cons (o := ⟨_, _, _, _, _, _⟩) rfl (fun K hK => ?_) AllReadyH.nil)
    rewrite [if_pos (wanted_free rfl)]
    with_reducible refine wp_storeV 145 (.tmp 3) (.tmp 12) (by with_unfolding_all rfl) Wc.heap.size (gvr 0 0 0) (gvr n (b : Int) 0) (by with_unfolding_all rfl) (by with_unfolding_all rfl) (KpM.get HKWca (List.mem_cons_self ..)) 3 Tryd.sizeNo (by with_unfolding_all rfl) (by with_unfolding_all rfl) (gvr_one _ _ _) ?_
    intro wf hAf hOf
    have HKf := KpM.put HKWca (fun x hx => by cases hx) hAf (gvr_ne _ _ _) hOf
    refine hK.out _ _ (KpM.rowH HKf).sr (fun _ => ?_)
    clear hK K
    refine wpAnyH_done (by kernel_rfl) ?_ _
    generalize Wc.heap.size = GA at *
    obtain ⟨r0, r1, r2⟩ := (KpM.rowH HKf).sr
    obtain ⟨x0, x1, x2⟩ := (KpM.get HKf (List.mem_cons_self ..)).gvr
    clear HKW HKWc HKWca
    go_wp2_with (first
      | (with_reducible refine wpList_cellH (w := wf) (by with_unfolding_all rfl) 2 (.tmp 29) (.tmp 27) (by with_unfolding_all rfl) g 1 (srv t p false) (srv t b false) (.int .i64 (b : Int)) (by with_unfolding_all rfl) (by with_unfolding_all rfl) rfl Tryd.siz1I (KpM.rowH HKf) (by simp [srv]) (by with_unfolding_all rfl) ?_; intro wz hAz hBz hFz hSz; have Oz := HKf.out.only.trans (Only.set hBz hFz hSz); obtain ⟨y0, y1, y2⟩ := ((Only.set hBz hFz hSz).row (KpM.get HKf (List.mem_cons_self ..)) (gvr_ne _ _ _) (by have := (HKf.out.own _ (List.mem_cons_self ..)).1; have := HKf.out.lt; simp at *; omega)).gvr))
    go_ret
    exact ⟨rfl, hAz, Oz⟩
  · as_aux_lemma =>
    rewrite [if_pos (wanted_free rfl)]
    with_reducible refine wp_allocV 145 (by with_unfolding_all rfl) (gvr 0 0 0) Tryd.infoNo ?_
    intro Wa hAWa hBWa
    have HKWa := KpM.new HKW hAWa (gvr_ne _ _ _) hBWa
    refine hK.out _ _ (KpM.rowH HKWa).sr (fun _ => ?_)
    clear hK K
    try simp only [Act.put, List.setIfInBounds_toArray, List.set_cons_zero, List.set_cons_succ]
    refine wpAnyH_ready (rs := [8]) (by kernel_rfl) (by simp) (AllReadyH.cons (o := ⟨_, _, _, _, _, _⟩) rfl (fun K hK => ?_) AllReadyH.nil)
    rewrite [if_pos (wanted_free rfl)]
    go_simp
    refine (hN Wa).mono ?_
    rintro e Wac ⟨rfl, hBWac⟩
    have HKWac := KpM.call HKWa hBWac
    go_wp2_with fail
    refine hK.out _ _ (KpM.rowH HKWac).sr (fun _ => ?_)
    clear hK K
    try simp only [Act.put, List.setIfInBounds_toArray, List.set_cons_zero, List.set_cons_succ]
    refine wpAnyH_ready (rs := [10]) (by kernel_rfl) (by simp) (AllReadyH.cons (o := ⟨_, _, _, _, _, _⟩) rfl (fun K hK => ?_) AllReadyH.nil)
    rewrite [if_pos (wanted_free rfl)]
    with_reducible refine wp_storeV 145 (.tmp 3) (.tmp 12) (by with_unfolding_all rfl) W.heap.size (gvr 0 0 0) (gvr n (b : Int) 0) (by with_unfolding_all rfl) (by with_unfolding_all rfl) (KpM.get HKWac (List.mem_cons_self ..)) 3 Tryd.sizeNo (by with_unfolding_all rfl) (by with_unfolding_all rfl) (gvr_one _ _ _) ?_
    intro wf hAf hOf
    have HKf := KpM.put HKWac (fun x hx => by cases hx) hAf (gvr_ne _ _ _) hOf
    refine hK.out _ _ (KpM.rowH HKf).sr (fun _ => ?_)
    clear hK K
    refine wpAnyH_done (by kernel_rfl) ?_ _
    generalize W.heap.size = GA at *
    obtain ⟨r0, r1, r2⟩ := (KpM.rowH HKf).sr
    obtain ⟨x0, x1, x2⟩ := (KpM.get HKf (List.mem_cons_self ..)).gvr
    clear HKW HKWa HKWac
    go_wp2_with (first
      | (with_reducible refine wpList_cellH (w := wf) (by with_unfolding_all rfl) 2 (.tmp 29) (.tmp 27) (by with_unfolding_all rfl) g 1 (srv t p false) (srv t b false) (.int .i64 (b : Int)) (by with_unfolding_all rfl) (by with_unfolding_all rfl) rfl Tryd.siz1I (KpM.rowH HKf) (by simp [srv]) (by with_unfolding_all rfl) ?_; intro wz hAz hBz hFz hSz; have Oz := HKf.out.only.trans (Only.set hBz hFz hSz); obtain ⟨y0, y1, y2⟩ := ((Only.set hBz hFz hSz).row (KpM.get HKf (List.mem_cons_self ..)) (gvr_ne _ _ _) (by have := (HKf.out.own _ (List.mem_cons_self ..)).1; have := HKf.out.lt; simp at *; omega)).gvr))
    go_ret
    exact ⟨rfl, hAz, Oz⟩
/- What num tells, whatever the reader's state. -/
def NumR (t : ByteArray) (p : Nat) (bad : Bool) (n : Int) (p' : Nat) (bad' : Bool) : Prop := p' ≤ t.size ∧ ((bad = false ∧ numO t p = some (n, p') ∧ bad' = false) ∨ ((bad = true ∨ numO t p = none) ∧ bad' = true))
theorem spNum (g p : Nat) (t : ByteArray) (w : World) (hs : t.size ≤ maxLen) (hp : p ≤ t.size) (bad : Bool) (h : RowV w g (srv t p bad)) :
    Calls Tryd.prog 73 #[.pointer (some ⟨g, 0, none⟩)] w fun e w' => ∃ n p' bad', e = .returned (.int .i64 n) ∧ NumR t p bad n p' bad' ∧ RowV w' g (srv t p' bad') ∧ Only g w w' := by
  by_cases hb : bad = true ∨ numO t p = none
  · refine (spNumBad g p t w hs hp bad hb h).mono ?_
    rintro e w' ⟨rfl, h1, h2⟩
    exact ⟨0, p, true, rfl, ⟨hp, Or.inr ⟨hb, rfl⟩⟩, h1, h2⟩
  · have hb1 : bad = false := by cases bad with
      | true => exact absurd (Or.inl rfl) hb
      | false => rfl
    subst hb1
    cases hn : numO t p with
    | none => exact absurd (Or.inr hn) hb
    | some x =>
      obtain ⟨n, b⟩ := x
      refine (spNumYes g p t w hs hp b n hn h).mono ?_
      rintro e w' ⟨rfl, h1, h2⟩
      exact ⟨n, b, false, rfl, ⟨(numO_some hn).2.1, Or.inl ⟨rfl, hn, rfl⟩⟩, h1, h2⟩
end Go.Proofs.YtchfpiadfmnphaaDoor
namespace Go.Proofs.YtchfpiadfmnphaaDoor
open Go.RowKit
set_option linter.unusedVariables false

theorem onlyN {g : Nat} {w : World} (n : Nat) : Only g w (w.drewN n) := ⟨belowN (Below.refl _ _) _, fun _ _ _ => rfl, Nat.le_refl _⟩
set_option maxRecDepth 100000 in
set_option maxHeartbeats 1000000 in
theorem spBytesBad (g p m : Nat) (t : ByteArray) (w : World) (hs : t.size ≤ maxLen) (hp : p ≤ t.size) (hm : m ≤ 1000) (bad : Bool) (hb : bad = true ∨ t.size < p + m) (h : RowV w g (srv t p bad)) :
    Calls Tryd.prog 72 #[.pointer (some ⟨g, 0, none⟩), .int .i64 (m : Int)] w fun e w' => e = .returned (.string ⟨#[]⟩) ∧ RowV w' g (srv t p true) ∧ Only g w w' := by
  unfold maxLen at hs
  obtain ⟨c0, c1, c2⟩ := h.sr
  have HR : Hid (RowV w g (srv t p bad)) := h
  clear h
  obtain ⟨d, hd⟩ : ∃ d : Int, (t.size : Int) - (m : Int) = d := ⟨_, rfl⟩
  have ed : IntKind.i64.wrap d = d := by rw [IntKind.wrap_i64]; omega
  cases bad with
  | true =>
    clear hb
    go_enter Tryd.func72, Tryd.ntmps72
    go_wp2_with fail
    go_quiet (fail)
    have R1 : RowV (w.drewN nq) g (srv t p true) := HR.out.drewN _
    have O1 : Only g w (w.drewN nq) := onlyN _
    clear HR c0 c1 c2
    generalize w.drewN nq = w1 at *
    go_wp2_with (first
      | (with_reducible refine wpList_cellB (w := w1) (by with_unfolding_all rfl) 4 (.tmp 25) (.const (.bool true)) (by with_unfolding_all rfl) g 2 (srv t p true) (srv t p true) true (by with_unfolding_all rfl) (by with_unfolding_all rfl) Tryd.siz1B R1 (by simp [srv]) (by with_unfolding_all rfl) ?_; intro wz hAz hBz hFz hSz; have Oz := O1.trans (Only.set hBz hFz hSz)))
    go_ret
    exact ⟨rfl, hAz, Oz⟩
  | false =>
    have hb' : t.size < p + m := hb.elim (fun h => by cases h) id
    have d1 : decide (d < (p : Int)) = true := decide_eq_true (by omega)
    clear hb
    go_enter Tryd.func72, Tryd.ntmps72
    go_wp2_with fail
    go_quiet (fail)
    have R1 : RowV (w.drewN nq) g (srv t p false) := HR.out.drewN _
    have O1 : Only g w (w.drewN nq) := onlyN _
    clear HR c0 c1 c2
    generalize w.drewN nq = w1 at *
    go_wp2_with (first
      | (with_reducible refine wpList_cellB (w := w1) (by with_unfolding_all rfl) 4 (.tmp 25) (.const (.bool true)) (by with_unfolding_all rfl) g 2 (srv t p false) (srv t p true) true (by with_unfolding_all rfl) (by with_unfolding_all rfl) Tryd.siz1B R1 (by simp [srv]) (by with_unfolding_all rfl) ?_; intro wz hAz hBz hFz hSz; have Oz := O1.trans (Only.set hBz hFz hSz)))
    go_ret
    exact ⟨rfl, hAz, Oz⟩
set_option maxRecDepth 100000 in
set_option maxHeartbeats 1000000 in
theorem spBytesYes (g p m q : Nat) (t : ByteArray) (w : World) (hs : t.size ≤ maxLen) (hq : p + m = q) (hm : q ≤ t.size) (h : RowV w g (srv t p false)) :
    Calls Tryd.prog 72 #[.pointer (some ⟨g, 0, none⟩), .int .i64 (m : Int)] w fun e w' => e = .returned (.string (t.extract p q)) ∧ RowV w' g (srv t q false) ∧ Only g w w' := by
  unfold maxLen at hs
  obtain ⟨c0, c1, c2⟩ := h.sr
  have HR : Hid (RowV w g (srv t p false)) := h
  clear h
  obtain ⟨d, hd⟩ : ∃ d : Int, (t.size : Int) - (m : Int) = d := ⟨_, rfl⟩
  have ed : IntKind.i64.wrap d = d := by rw [IntKind.wrap_i64]; omega
  have d1 : decide (d < (p : Int)) = false := decide_eq_false (by omega)
  have e1 : (p : Int) + (m : Int) = (q : Int) := by omega
  have e2 : (q : Int) - (m : Int) = (p : Int) := by omega
  have e3 : IntKind.i64.wrap (p : Int) = (p : Int) := by rw [IntKind.wrap_i64]; omega
  obtain ⟨x, hx⟩ : ∃ x, t.extract p q = x := ⟨_, rfl⟩
  have hsl : ∀ w0 : World, (Instr.slice 9 (.string t) (some (.int .i64 (p : Int))) (some (.int .i64 (q : Int))) none).run Tryd.prog w0 = .ok (.string x) w0 := by
    intro w0
    rw [run_slice_string_if w0 9 t .i64 .i64 p q Tryd.underlying9, if_pos ⟨by omega, by omega⟩, if_pos ⟨by omega, by omega⟩, ← hx]
    simp
  rw [hx]
  clear hx
  go_enter Tryd.func72, Tryd.ntmps72
  go_wp2_with fail
  go_quiet (fail)
  have R1 : RowV (w.drewN nq) g (srv t p false) := HR.out.drewN _
  have O1 : Only g w (w.drewN nq) := onlyN _
  clear HR c0 c1 c2
  generalize w.drewN nq = w1 at *
  obtain ⟨c0, c1, c2⟩ := R1.sr
  go_wp2_with (first
    | (with_reducible refine wpList_cellH (w := w1) (by with_unfolding_all rfl) 2 (.tmp 34) (.tmp 32) (by with_unfolding_all rfl) g 1 (srv t p false) (srv t q false) (.int .i64 (q : Int)) (by with_unfolding_all rfl) (by with_unfolding_all rfl) rfl Tryd.siz1I R1 (by simp [srv]) (by with_unfolding_all rfl) ?_; intro w2 hA2 hB2 hF2 hS2; have O2 := O1.trans (Only.set hB2 hF2 hS2); clear c0 c1 c2; obtain ⟨c0, c1, c2⟩ := hA2.sr))
  go_quiet (fail)
  have R3 : RowV (w2.drewN nq) g (srv t q false) := hA2.drewN _
  have O3 : Only g w (w2.drewN nq) := O2.trans (onlyN _)
  clear hA2 hB2 hF2 hS2 c0 c1 c2
  generalize w2.drewN nq = w3 at *
  go_wp2
  go_ret
  exact ⟨rfl, R3, O3⟩
/- The first byte, as it must be. -/
def FstR (t : ByteArray) (m : ByteArray) (p' : Nat) (bad' : Bool) : Prop := p' ≤ t.size ∧ ((∃ y, m = ⟨#[y]⟩ ∧ FirstB t y ∧ p' = 1 ∧ bad' = false) ∨ ((¬ ∃ y, m = ⟨#[y]⟩ ∧ FirstB t y) ∧ bad' = true))
theorem one_byte (t : ByteArray) (h : 1 ≤ t.size) : ∃ y, t.extract 0 1 = ⟨#[y]⟩ := by
  refine ⟨t[0], ?_⟩
  apply ByteArray.ext
  apply Array.ext
  · simp; omega
  · intro i h1 h2
    have : i = 0 := by simp at h2; omega
    subst this
    simp
    rfl
set_option maxRecDepth 100000 in
set_option maxHeartbeats 1000000 in
theorem spFirst (g : Nat) (t m : ByteArray) (w : World) (hs : t.size ≤ maxLen) (h : RowV w g (srv t 0 false)) :
    Calls Tryd.prog 69 #[.pointer (some ⟨g, 0, none⟩), .string m] w fun e w' => ∃ p' bad', e = .returned (.tuple #[]) ∧ FstR t m p' bad' ∧ RowV w' g (srv t p' bad') ∧ Only g w w' := by
  by_cases h1 : 1 ≤ t.size
  · obtain ⟨y, hy⟩ := one_byte t h1
    have HB : Hid (Calls Tryd.prog 72 #[.pointer (some ⟨g, 0, none⟩), .int .i64 1] w fun e w' => e = .returned (.string ⟨#[y]⟩) ∧ RowV w' g (srv t 1 false) ∧ Only g w w') := by
      have := spBytesYes g 0 1 1 t w hs rfl h1 h
      rw [hy] at this
      exact this
    by_cases he : m = ⟨#[y]⟩
    · have HF : Hid (FstR t m 1 false) := ⟨h1, Or.inl ⟨y, he, ⟨h1, hy⟩, rfl, rfl⟩⟩
      rw [← he] at HB
      have e1 := txt_eq m
      clear he hy h
      go_enter Tryd.func69, Tryd.ntmps69
      go_wp2_with (first
        | (go_at_call 72; refine Calls.mono HB.out ?_; rintro e w1 ⟨rfl, hR1, hO1⟩))
      first | go_end0 | refine bodyPost_ret (results_none rfl _ _ _) rfl ?_
      exact ⟨1, false, rfl, HF.out, hR1, hO1⟩
    · have HF : Hid (FstR t m 1 true) := ⟨h1, Or.inr ⟨fun ⟨z, hz, hf⟩ => he (by rw [hz, ← hf.2, hy]), rfl⟩⟩
      have e1 : ((⟨#[y]⟩ : ByteArray).toList == m.toList) = false := txt_ne (fun e => he e.symm)
      obtain ⟨M, hM⟩ : ∃ M : ByteArray, M = ⟨#[y]⟩ := ⟨_, rfl⟩
      rw [← hM] at HB e1
      clear he hy h hM
      go_enter Tryd.func69, Tryd.ntmps69
      go_wp2_with (first
        | (go_at_call 72; refine Calls.mono HB.out ?_; rintro e w1 ⟨rfl, hR1, hO1⟩; obtain ⟨c0, c1, c2⟩ := hR1.sr)
        | (with_reducible refine wpList_cellB (w := w1) (by with_unfolding_all rfl) 4 (.tmp 10) (.const (.bool true)) (by with_unfolding_all rfl) g 2 (srv t 1 false) (srv t 1 true) true (by with_unfolding_all rfl) (by with_unfolding_all rfl) Tryd.siz1B hR1 (by simp [srv]) (by with_unfolding_all rfl) ?_; intro wz hAz hBz hFz hSz; have Oz := hO1.trans (Only.set hBz hFz hSz)))
      first | go_end0 | refine bodyPost_ret (results_none rfl _ _ _) rfl ?_
      first | exact ⟨1, true, rfl, HF.out, hAz, Oz⟩ | exact ⟨rfl, 1, Or.inr ⟨HF.out, hAz, Oz⟩⟩
  · have HB : Hid (Calls Tryd.prog 72 #[.pointer (some ⟨g, 0, none⟩), .int .i64 1] w fun e w' => e = .returned (.string ⟨#[]⟩) ∧ RowV w' g (srv t 0 true) ∧ Only g w w') := spBytesBad g 0 1 t w hs (Nat.zero_le _) (by omega) false (Or.inr (by omega)) h
    have HF : Hid (FstR t m 0 true) := ⟨Nat.zero_le _, Or.inr ⟨fun ⟨z, hz, hf⟩ => h1 hf.1, rfl⟩⟩
    clear h
    by_cases he : m = ⟨#[]⟩
    · rw [← he] at HB
      have e1 := txt_eq m
      clear he
      go_enter Tryd.func69, Tryd.ntmps69
      go_wp2_with (first
        | (go_at_call 72; refine Calls.mono HB.out ?_; rintro e w1 ⟨rfl, hR1, hO1⟩))
      first | go_end0 | refine bodyPost_ret (results_none rfl _ _ _) rfl ?_
      exact ⟨0, true, rfl, HF.out, hR1, hO1⟩
    · have e1 : ((⟨#[]⟩ : ByteArray).toList == m.toList) = false := txt_ne (fun e => he e.symm)
      obtain ⟨M, hM⟩ : ∃ M : ByteArray, M = ⟨#[]⟩ := ⟨_, rfl⟩
      rw [← hM] at HB e1
      clear he hM
      go_enter Tryd.func69, Tryd.ntmps69
      go_wp2_with (first
        | (go_at_call 72; refine Calls.mono HB.out ?_; rintro e w1 ⟨rfl, hR1, hO1⟩; obtain ⟨c0, c1, c2⟩ := hR1.sr)
        | (with_reducible refine wpList_cellB (w := w1) (by with_unfolding_all rfl) 4 (.tmp 10) (.const (.bool true)) (by with_unfolding_all rfl) g 2 (srv t 0 true) (srv t 0 true) true (by with_unfolding_all rfl) (by with_unfolding_all rfl) Tryd.siz1B hR1 (by simp [srv]) (by with_unfolding_all rfl) ?_; intro wz hAz hBz hFz hSz; have Oz := hO1.trans (Only.set hBz hFz hSz)))
      first | go_end0 | refine bodyPost_ret (results_none rfl _ _ _) rfl ?_
      first | exact ⟨0, true, rfl, HF.out, hAz, Oz⟩ | exact ⟨rfl, 0, Or.inr ⟨HF.out, hAz, Oz⟩⟩
def doneB (t : ByteArray) (p : Nat) (bad : Bool) : Bool := !bad && decide (p = t.size)
set_option maxRecDepth 100000 in
set_option maxHeartbeats 1000000 in
theorem spDone (g p : Nat) (t : ByteArray) (w : World) (hs : t.size ≤ maxLen) (hp : p ≤ t.size) (bad : Bool) (h : RowV w g (srv t p bad)) :
    Calls Tryd.prog 74 #[.pointer (some ⟨g, 0, none⟩)] w fun e w' => e = .returned (.bool (doneB t p bad)) ∧ Below w.heap.size w w' := by
  unfold maxLen at hs
  obtain ⟨c0, c1, c2⟩ := h.sr
  clear h
  unfold doneB
  cases bad with
  | true =>
    go_enter Tryd.func74, Tryd.ntmps74
    go_wp2_with fail
    go_quiet (fail)
    go_wp2
    go_ret
    exact ⟨rfl, belowN (Below.refl _ _) _⟩
  | false =>
    by_cases hq : p = t.size
    · rw [decide_eq_true hq]
      have e1 : ((p : Int) == (t.size : Int)) = true := by rw [hq]; simp
      have e2 : (p == t.size) = true := by rw [hq]; simp
      clear hq
      go_enter Tryd.func74, Tryd.ntmps74
      go_wp2_with fail
      go_quiet (fail)
      go_wp2
      go_ret
      exact ⟨rfl, belowN (Below.refl _ _) _⟩
    · rw [decide_eq_false hq]
      have e1 : ((p : Int) == (t.size : Int)) = false := beq_eq_false_iff_ne.2 (by omega)
      have e2 : (p == t.size) = false := beq_eq_false_iff_ne.2 hq
      clear hq
      go_enter Tryd.func74, Tryd.ntmps74
      go_wp2_with fail
      go_quiet (fail)
      go_wp2
      go_ret
      exact ⟨rfl, belowN (Below.refl _ _) _⟩
theorem fst_le {t m : ByteArray} {p : Nat} {d : Bool} (h : Hid (FstR t m p d)) : p ≤ t.size := h.out.1
theorem num_le {t : ByteArray} {p p' : Nat} {d d' : Bool} {n : Int} (h : Hid (NumR t p d n p' d')) : p' ≤ t.size := h.out.1
theorem results_VB {P : Program} {fn : Func} {a b : Tmp} {t : TypeId} {w : World} (h : fn.results = #[.cell a t, .tmp b]) (tmps : Array Value) (g : Nat) (l : List Value) (hx : tmps.getD a undef = .pointer (some ⟨g, 0, none⟩))
    (hl : RowV w g l) (hu : ∃ d, P.underlying t = some d ∧ d.isRow = true) (n : Nat) (hi : (P.info? t).map (·.size) = some n) (hn : l.length = n) (v : Value) (hx2 : tmps.getD b undef = v) :
    (results fn tmps).run P w = .ok (.tuple #[.agg l.toArray, v]) w := by
  obtain ⟨d, hd, hr⟩ := hu
  have := run_loadVar_mid (P := P) w g 0 t l d hl.rng hd hr (by rw [hn]; exact hi)
  rw [Array.getD_eq_getD_getElem?] at hx hx2
  simp [results, h, hx, hx2, asAddr, this]
end Go.Proofs.YtchfpiadfmnphaaDoor
namespace Go.Proofs.YtchfpiadfmnphaaDoor
open Go.RowKit
set_option linter.unusedVariables false

def tvr (n : ByteArray) (b c : Int) : List Value := [.string n, .int .i64 b, .int .i64 c]
theorem tvr_ne (n : ByteArray) (b c : Int) : tvr n b c ≠ [] := by simp [tvr]
theorem tvr_one (n : ByteArray) (b c : Int) : ∀ y ∈ tvr n b c, y.oneCell' = true := by
  intro y hy
  simp [tvr] at hy
  rcases hy with h | h | h <;> (rw [h]; rfl)
theorem RowV.tvr {w : World} {g : Nat} {n : ByteArray} {b c : Int} (h : RowV w g (tvr n b c)) : w.cell? ⟨g, 0, none⟩ = some (.string n) ∧ w.cell? ⟨g, 1, none⟩ = some (.int .i64 b) ∧ w.cell? ⟨g, 2, none⟩ = some (.int .i64 c) := ⟨h.cell (k := 0) rfl, h.cell (k := 1) rfl, h.cell (k := 2) rfl⟩
theorem Tryd.infoTo : (Tryd.prog.info? 142).map (fun i => i.zero) = some (some (.agg (Go.Proofs.YtchfpiadfmnphaaDoor.tvr ⟨#[]⟩ 0 0).toArray)) := by kernel_rfl
theorem Tryd.sizeTo : (Tryd.prog.info? 142).map (·.size) = some 3 := by kernel_rfl
set_option maxRecDepth 100000 in
set_option maxHeartbeats 1000000 in
theorem spTxtBad (g p : Nat) (t : ByteArray) (w : World) (hs : t.size ≤ maxLen) (hp : p ≤ t.size) (bad : Bool) (hb : bad = true ∨ textO t p = none) (h : RowV w g (srv t p bad)) :
    Calls Tryd.prog 70 #[.pointer (some ⟨g, 0, none⟩)] w fun e w' => e = .returned (.string ⟨#[]⟩) ∧ RowV w' g (srv t p true) ∧ Only g w w' := by
  obtain ⟨n, b, c, hg, hc⟩ : ∃ n b c, getT t p = ⟨n, b, c⟩ ∧ (bad = true ∨ ¬ c = 0) := by
    rcases hb with hb | hb
    · exact ⟨(getT t p).text, (getT t p).behind, (getT t p).code, rfl, Or.inl hb⟩
    · obtain ⟨c, hc, hg⟩ := textO_none hb
      exact ⟨noText, 0, c, hg, Or.inr hc⟩
  have hN : ∀ w0, Calls Tryd.prog 98 #[.string t, .int .i64 (p : Int)] w0 fun e w' => e = .returned (.agg #[.string n, .int .i64 b, .int .i64 c]) ∧ Below w0.heap.size w0 w' := fun w0 => by
    have := specTxt t p w0 hs (i64n (by unfold maxLen at hs; omega))
    rw [hg] at this
    exact this
  clear hg hb
  cases bad with
  | true =>
    go_enter Tryd.func70, Tryd.ntmps70
    go_wp2_with fail
    refine wp_region_held_drew (S := fun w' => w'.cell? ⟨g, 0, none⟩ = some (.string t) ∧ w'.cell? ⟨g, 1, none⟩ = some (.int .i64 (p : Int)) ∧ w'.cell? ⟨g, 2, none⟩ = some (.bool true)) (by kernel_rfl) h.drew.sr (fun hHeld => ?_)
    refine wpAnyH_take (i := 0) (oi := ⟨_, _, _, _, _, _⟩) (v := .pointer (some ⟨g, 0, none⟩)) rfl (by kernel_rfl) (by kernel_rfl) (by kernel_rfl) (fun _ _ _ h => h) (Or.inl ⟨wanted_free rfl, fun w' hSw => ?_⟩) hHeld ?_
    · obtain ⟨s0, s1, s2⟩ := hSw
      go_simp
    try simp only [Act.put, List.setIfInBounds_toArray, List.set_cons_zero, List.set_cons_succ]
    refine wpAnyH_take (i := 1) (oi := ⟨_, _, _, _, _, _⟩) (v := .pointer (some ⟨g, 0, none⟩)) rfl (by kernel_rfl) (by kernel_rfl) (by kernel_rfl) (fun _ _ _ h => h) (Or.inl ⟨wanted_free rfl, fun w' hSw => ?_⟩) hHeld ?_
    · obtain ⟨s0, s1, s2⟩ := hSw
      go_simp
    try simp only [Act.put, List.setIfInBounds_toArray, List.set_cons_zero, List.set_cons_succ]
    refine wpAnyH_take (i := 2) (oi := ⟨_, _, _, _, _, _⟩) (v := .pointer (some ⟨g, 0, none⟩)) rfl (by kernel_rfl) (by kernel_rfl) (by kernel_rfl) (fun _ _ _ h => h) (Or.inl ⟨wanted_free rfl, fun w' hSw => ?_⟩) hHeld ?_
    · obtain ⟨s0, s1, s2⟩ := hSw
      go_simp
    try simp only [Act.put, List.setIfInBounds_toArray, List.set_cons_zero, List.set_cons_succ]
    refine wpAnyH_take (i := 3) (oi := ⟨_, _, _, _, _, _⟩) (v := .string t) rfl (by kernel_rfl) (by kernel_rfl) (by kernel_rfl) (fun _ _ _ h => h) (Or.inl ⟨wanted_free rfl, fun w' hSw => ?_⟩) hHeld ?_
    · obtain ⟨s0, s1, s2⟩ := hSw
      go_simp
    try simp only [Act.put, List.setIfInBounds_toArray, List.set_cons_zero, List.set_cons_succ]
    refine wpAnyH_take (i := 4) (oi := ⟨_, _, _, _, _, _⟩) (v := .pointer (some ⟨g, 0, none⟩)) rfl (by kernel_rfl) (by kernel_rfl) (by kernel_rfl) (fun _ _ _ h => h) (Or.inl ⟨wanted_free rfl, fun w' hSw => ?_⟩) hHeld ?_
    · obtain ⟨s0, s1, s2⟩ := hSw
      go_simp
    try simp only [Act.put, List.setIfInBounds_toArray, List.set_cons_zero, List.set_cons_succ]
    refine wpAnyH_take (i := 5) (oi := ⟨_, _, _, _, _, _⟩) (v := .pointer (some ⟨g, 0, none⟩)) rfl (by kernel_rfl) (by kernel_rfl) (by kernel_rfl) (fun _ _ _ h => h) (Or.inl ⟨wanted_free rfl, fun w' hSw => ?_⟩) hHeld ?_
    · obtain ⟨s0, s1, s2⟩ := hSw
      go_simp
    try simp only [Act.put, List.setIfInBounds_toArray, List.set_cons_zero, List.set_cons_succ]
    refine wpAnyH_take (i := 6) (oi := ⟨_, _, _, _, _, _⟩) (v := .pointer (some ⟨g, 1, none⟩)) rfl (by kernel_rfl) (by kernel_rfl) (by kernel_rfl) (fun _ _ _ h => h) (Or.inl ⟨wanted_free rfl, fun w' hSw => ?_⟩) hHeld ?_
    · obtain ⟨s0, s1, s2⟩ := hSw
      go_simp
    try simp only [Act.put, List.setIfInBounds_toArray, List.set_cons_zero, List.set_cons_succ]
    refine wpAnyH_take (i := 7) (oi := ⟨_, _, _, _, _, _⟩) (v := .int .i64 (p : Int)) rfl (by kernel_rfl) (by kernel_rfl) (by kernel_rfl) (fun _ _ _ h => h) (Or.inl ⟨wanted_free rfl, fun w' hSw => ?_⟩) hHeld ?_
    · obtain ⟨s0, s1, s2⟩ := hSw
      go_simp
    try simp only [Act.put, List.setIfInBounds_toArray, List.set_cons_zero, List.set_cons_succ]
    have HKW := KpM.drew (KpM.start h (srv_ne _ _ _))
    generalize w.drew = W at *
    clear hHeld h
    refine wpAnyH_ready (rs := [8, 9]) (by kernel_rfl) (by simp) (AllReadyH.cons (o := ⟨_, _, _, _, _, _⟩) rfl (fun K hK => ?_) (AllReadyH.cons (o := ⟨_, _, _, _, _, _⟩) rfl (fun K hK => ?_) AllReadyH.nil))
    · as_aux_lemma =>
      rewrite [if_pos (wanted_free rfl)]
      go_simp
      refine (hN W).mono ?_
      rintro e Wc ⟨rfl, hBWc⟩
      have HKWc := KpM.call HKW hBWc
      go_wp2_with fail
      refine hK.out _ _ (KpM.rowH HKWc).sr (fun _ => ?_)
      clear hK K
      try simp only [Act.put, List.setIfInBounds_toArray, List.set_cons_zero, List.set_cons_succ]
      refine wpAnyH_ready (rs := [9]) (by kernel_rfl) (by simp) (AllReadyH.cons (o := ⟨_, _, _, _, _, _⟩) rfl (fun K hK => ?_) AllReadyH.nil)
      rewrite [if_pos (wanted_free rfl)]
      with_reducible refine wp_allocV 142 (by with_unfolding_all rfl) (tvr ⟨#[]⟩ 0 0) Tryd.infoTo ?_
      intro Wca hAWca hBWca
      have HKWca := KpM.new HKWc hAWca (tvr_ne _ _ _) hBWca
      refine hK.out _ _ (KpM.rowH HKWca).sr (fun _ => ?_)
      clear hK K
      try simp only [Act.put, List.setIfInBounds_toArray, List.set_cons_zero, List.set_cons_succ]
      refine wpAnyH_ready (rs := [10]) (by kernel_rfl) (by simp) (AllReadyH.cons (o := ⟨_, _, _, _, _, _⟩) rfl (fun K hK => ?_) AllReadyH.nil)
      rewrite [if_pos (wanted_free rfl)]
      with_reducible refine wp_storeV 142 (.tmp 3) (.tmp 12) (by with_unfolding_all rfl) Wc.heap.size (tvr ⟨#[]⟩ 0 0) (tvr n b c) (by with_unfolding_all rfl) (by with_unfolding_all rfl) (KpM.get HKWca (List.mem_cons_self ..)) 3 Tryd.sizeTo (by with_unfolding_all rfl) (by with_unfolding_all rfl) (tvr_one _ _ _) ?_
      intro wf hAf hOf
      have HKf := KpM.put HKWca (fun x hx => by cases hx) hAf (tvr_ne _ _ _) hOf
      refine hK.out _ _ (KpM.rowH HKf).sr (fun _ => ?_)
      clear hK K
      refine wpAnyH_done (by kernel_rfl) ?_ _
      generalize Wc.heap.size = GA at *
      obtain ⟨r0, r1, r2⟩ := (KpM.rowH HKf).sr
      obtain ⟨x0, x1, x2⟩ := (KpM.get HKf (List.mem_cons_self ..)).tvr
      clear HKW HKWc HKWca
      go_wp2_with (first
        | (with_reducible refine wpList_cellB (w := wf) (by with_unfolding_all rfl) 4 (.tmp 24) (.const (.bool true)) (by with_unfolding_all rfl) g 2 (srv t p true) (srv t p true) true (by with_unfolding_all rfl) (by with_unfolding_all rfl) Tryd.siz1B (KpM.rowH HKf) (by simp [srv]) (by with_unfolding_all rfl) ?_; intro wz hAz hBz hFz hSz; have Oz := HKf.out.only.trans (Only.set hBz hFz hSz)))
      go_ret
      exact ⟨rfl, hAz, Oz⟩
    · as_aux_lemma =>
      rewrite [if_pos (wanted_free rfl)]
      with_reducible refine wp_allocV 142 (by with_unfolding_all rfl) (tvr ⟨#[]⟩ 0 0) Tryd.infoTo ?_
      intro Wa hAWa hBWa
      have HKWa := KpM.new HKW hAWa (tvr_ne _ _ _) hBWa
      refine hK.out _ _ (KpM.rowH HKWa).sr (fun _ => ?_)
      clear hK K
      try simp only [Act.put, List.setIfInBounds_toArray, List.set_cons_zero, List.set_cons_succ]
      refine wpAnyH_ready (rs := [8]) (by kernel_rfl) (by simp) (AllReadyH.cons (o := ⟨_, _, _, _, _, _⟩) rfl (fun K hK => ?_) AllReadyH.nil)
      rewrite [if_pos (wanted_free rfl)]
      go_simp
      refine (hN Wa).mono ?_
      rintro e Wac ⟨rfl, hBWac⟩
      have HKWac := KpM.call HKWa hBWac
      go_wp2_with fail
      refine hK.out _ _ (KpM.rowH HKWac).sr (fun _ => ?_)
      clear hK K
      try simp only [Act.put, List.setIfInBounds_toArray, List.set_cons_zero, List.set_cons_succ]
      refine wpAnyH_ready (rs := [10]) (by kernel_rfl) (by simp) (AllReadyH.cons (o := ⟨_, _, _, _, _, _⟩) rfl (fun K hK => ?_) AllReadyH.nil)
      rewrite [if_pos (wanted_free rfl)]
      with_reducible refine wp_storeV 142 (.tmp 3) (.tmp 12) (by with_unfolding_all rfl) W.heap.size (tvr ⟨#[]⟩ 0 0) (tvr n b c) (by with_unfolding_all rfl) (by with_unfolding_all rfl) (KpM.get HKWac (List.mem_cons_self ..)) 3 Tryd.sizeTo (by with_unfolding_all rfl) (by with_unfolding_all rfl) (tvr_one _ _ _) ?_
      intro wf hAf hOf
      have HKf := KpM.put HKWac (fun x hx => by cases hx) hAf (tvr_ne _ _ _) hOf
      refine hK.out _ _ (KpM.rowH HKf).sr (fun _ => ?_)
      clear hK K
      refine wpAnyH_done (by kernel_rfl) ?_ _
      generalize W.heap.size = GA at *
      obtain ⟨r0, r1, r2⟩ := (KpM.rowH HKf).sr
      obtain ⟨x0, x1, x2⟩ := (KpM.get HKf (List.mem_cons_self ..)).tvr
      clear HKW HKWa HKWac
      go_wp2_with (first
        | (with_reducible refine wpList_cellB (w := wf) (by with_unfolding_all rfl) 4 (.tmp 24) (.const (.bool true)) (by with_unfolding_all rfl) g 2 (srv t p true) (srv t p true) true (by with_unfolding_all rfl) (by with_unfolding_all rfl) Tryd.siz1B (KpM.rowH HKf) (by simp [srv]) (by with_unfolding_all rfl) ?_; intro wz hAz hBz hFz hSz; have Oz := HKf.out.only.trans (Only.set hBz hFz hSz)))
      go_ret
      exact ⟨rfl, hAz, Oz⟩
  | false =>
    have hc' : ¬ c = 0 := hc.elim (fun h => by cases h) id
    have e1 : (c == 0) = false := beq_eq_false_iff_ne.2 hc'
    clear hc
    go_enter Tryd.func70, Tryd.ntmps70
    go_wp2_with fail
    refine wp_region_held_drew (S := fun w' => w'.cell? ⟨g, 0, none⟩ = some (.string t) ∧ w'.cell? ⟨g, 1, none⟩ = some (.int .i64 (p : Int)) ∧ w'.cell? ⟨g, 2, none⟩ = some (.bool false)) (by kernel_rfl) h.drew.sr (fun hHeld => ?_)
    refine wpAnyH_take (i := 0) (oi := ⟨_, _, _, _, _, _⟩) (v := .pointer (some ⟨g, 0, none⟩)) rfl (by kernel_rfl) (by kernel_rfl) (by kernel_rfl) (fun _ _ _ h => h) (Or.inl ⟨wanted_free rfl, fun w' hSw => ?_⟩) hHeld ?_
    · obtain ⟨s0, s1, s2⟩ := hSw
      go_simp
    try simp only [Act.put, List.setIfInBounds_toArray, List.set_cons_zero, List.set_cons_succ]
    refine wpAnyH_take (i := 1) (oi := ⟨_, _, _, _, _, _⟩) (v := .pointer (some ⟨g, 0, none⟩)) rfl (by kernel_rfl) (by kernel_rfl) (by kernel_rfl) (fun _ _ _ h => h) (Or.inl ⟨wanted_free rfl, fun w' hSw => ?_⟩) hHeld ?_
    · obtain ⟨s0, s1, s2⟩ := hSw
      go_simp
    try simp only [Act.put, List.setIfInBounds_toArray, List.set_cons_zero, List.set_cons_succ]
    refine wpAnyH_take (i := 2) (oi := ⟨_, _, _, _, _, _⟩) (v := .pointer (some ⟨g, 0, none⟩)) rfl (by kernel_rfl) (by kernel_rfl) (by kernel_rfl) (fun _ _ _ h => h) (Or.inl ⟨wanted_free rfl, fun w' hSw => ?_⟩) hHeld ?_
    · obtain ⟨s0, s1, s2⟩ := hSw
      go_simp
    try simp only [Act.put, List.setIfInBounds_toArray, List.set_cons_zero, List.set_cons_succ]
    refine wpAnyH_take (i := 3) (oi := ⟨_, _, _, _, _, _⟩) (v := .string t) rfl (by kernel_rfl) (by kernel_rfl) (by kernel_rfl) (fun _ _ _ h => h) (Or.inl ⟨wanted_free rfl, fun w' hSw => ?_⟩) hHeld ?_
    · obtain ⟨s0, s1, s2⟩ := hSw
      go_simp
    try simp only [Act.put, List.setIfInBounds_toArray, List.set_cons_zero, List.set_cons_succ]
    refine wpAnyH_take (i := 4) (oi := ⟨_, _, _, _, _, _⟩) (v := .pointer (some ⟨g, 0, none⟩)) rfl (by kernel_rfl) (by kernel_rfl) (by kernel_rfl) (fun _ _ _ h => h) (Or.inl ⟨wanted_free rfl, fun w' hSw => ?_⟩) hHeld ?_
    · obtain ⟨s0, s1, s2⟩ := hSw
      go_simp
    try simp only [Act.put, List.setIfInBounds_toArray, List.set_cons_zero, List.set_cons_succ]
    refine wpAnyH_take (i := 5) (oi := ⟨_, _, _, _, _, _⟩) (v := .pointer (some ⟨g, 0, none⟩)) rfl (by kernel_rfl) (by kernel_rfl) (by kernel_rfl) (fun _ _ _ h => h) (Or.inl ⟨wanted_free rfl, fun w' hSw => ?_⟩) hHeld ?_
    · obtain ⟨s0, s1, s2⟩ := hSw
      go_simp
    try simp only [Act.put, List.setIfInBounds_toArray, List.set_cons_zero, List.set_cons_succ]
    refine wpAnyH_take (i := 6) (oi := ⟨_, _, _, _, _, _⟩) (v := .pointer (some ⟨g, 1, none⟩)) rfl (by kernel_rfl) (by kernel_rfl) (by kernel_rfl) (fun _ _ _ h => h) (Or.inl ⟨wanted_free rfl, fun w' hSw => ?_⟩) hHeld ?_
    · obtain ⟨s0, s1, s2⟩ := hSw
      go_simp
    try simp only [Act.put, List.setIfInBounds_toArray, List.set_cons_zero, List.set_cons_succ]
    refine wpAnyH_take (i := 7) (oi := ⟨_, _, _, _, _, _⟩) (v := .int .i64 (p : Int)) rfl (by kernel_rfl) (by kernel_rfl) (by kernel_rfl) (fun _ _ _ h => h) (Or.inl ⟨wanted_free rfl, fun w' hSw => ?_⟩) hHeld ?_
    · obtain ⟨s0, s1, s2⟩ := hSw
      go_simp
    try simp only [Act.put, List.setIfInBounds_toArray, List.set_cons_zero, List.set_cons_succ]
    have HKW := KpM.drew (KpM.start h (srv_ne _ _ _))
    generalize w.drew = W at *
    clear hHeld h
    refine wpAnyH_ready (rs := [8, 9]) (by kernel_rfl) (by simp) (AllReadyH.cons (o := ⟨_, _, _, _, _, _⟩) rfl (fun K hK => ?_) (AllReadyH.cons (o := ⟨_, _, _, _, _, _⟩) rfl (fun K hK => ?_) AllReadyH.nil))
    · as_aux_lemma =>
      rewrite [if_pos (wanted_free rfl)]
      go_simp
      refine (hN W).mono ?_
      rintro e Wc ⟨rfl, hBWc⟩
      have HKWc := KpM.call HKW hBWc
      go_wp2_with fail
      refine hK.out _ _ (KpM.rowH HKWc).sr (fun _ => ?_)
      clear hK K
      try simp only [Act.put, List.setIfInBounds_toArray, List.set_cons_zero, List.set_cons_succ]
      refine wpAnyH_ready (rs := [9]) (by kernel_rfl) (by simp) (AllReadyH.cons (o := ⟨_, _, _, _, _, _⟩) rfl (fun K hK => ?_) AllReadyH.nil)
      rewrite [if_pos (wanted_free rfl)]
      with_reducible refine wp_allocV 142 (by with_unfolding_all rfl) (tvr ⟨#[]⟩ 0 0) Tryd.infoTo ?_
      intro Wca hAWca hBWca
      have HKWca := KpM.new HKWc hAWca (tvr_ne _ _ _) hBWca
      refine hK.out _ _ (KpM.rowH HKWca).sr (fun _ => ?_)
      clear hK K
      try simp only [Act.put, List.setIfInBounds_toArray, List.set_cons_zero, List.set_cons_succ]
      refine wpAnyH_ready (rs := [10]) (by kernel_rfl) (by simp) (AllReadyH.cons (o := ⟨_, _, _, _, _, _⟩) rfl (fun K hK => ?_) AllReadyH.nil)
      rewrite [if_pos (wanted_free rfl)]
      with_reducible refine wp_storeV 142 (.tmp 3) (.tmp 12) (by with_unfolding_all rfl) Wc.heap.size (tvr ⟨#[]⟩ 0 0) (tvr n b c) (by with_unfolding_all rfl) (by with_unfolding_all rfl) (KpM.get HKWca (List.mem_cons_self ..)) 3 Tryd.sizeTo (by with_unfolding_all rfl) (by with_unfolding_all rfl) (tvr_one _ _ _) ?_
      intro wf hAf hOf
      have HKf := KpM.put HKWca (fun x hx => by cases hx) hAf (tvr_ne _ _ _) hOf
      refine hK.out _ _ (KpM.rowH HKf).sr (fun _ => ?_)
      clear hK K
      refine wpAnyH_done (by kernel_rfl) ?_ _
      generalize Wc.heap.size = GA at *
      obtain ⟨r0, r1, r2⟩ := (KpM.rowH HKf).sr
      obtain ⟨x0, x1, x2⟩ := (KpM.get HKf (List.mem_cons_self ..)).tvr
      clear HKW HKWc HKWca
      go_wp2_with (first
        | (with_reducible refine wpList_cellB (w := wf) (by with_unfolding_all rfl) 4 (.tmp 24) (.const (.bool true)) (by with_unfolding_all rfl) g 2 (srv t p false) (srv t p true) true (by with_unfolding_all rfl) (by with_unfolding_all rfl) Tryd.siz1B (KpM.rowH HKf) (by simp [srv]) (by with_unfolding_all rfl) ?_; intro wz hAz hBz hFz hSz; have Oz := HKf.out.only.trans (Only.set hBz hFz hSz)))
      go_ret
      exact ⟨rfl, hAz, Oz⟩
    · as_aux_lemma =>
      rewrite [if_pos (wanted_free rfl)]
      with_reducible refine wp_allocV 142 (by with_unfolding_all rfl) (tvr ⟨#[]⟩ 0 0) Tryd.infoTo ?_
      intro Wa hAWa hBWa
      have HKWa := KpM.new HKW hAWa (tvr_ne _ _ _) hBWa
      refine hK.out _ _ (KpM.rowH HKWa).sr (fun _ => ?_)
      clear hK K
      try simp only [Act.put, List.setIfInBounds_toArray, List.set_cons_zero, List.set_cons_succ]
      refine wpAnyH_ready (rs := [8]) (by kernel_rfl) (by simp) (AllReadyH.cons (o := ⟨_, _, _, _, _, _⟩) rfl (fun K hK => ?_) AllReadyH.nil)
      rewrite [if_pos (wanted_free rfl)]
      go_simp
      refine (hN Wa).mono ?_
      rintro e Wac ⟨rfl, hBWac⟩
      have HKWac := KpM.call HKWa hBWac
      go_wp2_with fail
      refine hK.out _ _ (KpM.rowH HKWac).sr (fun _ => ?_)
      clear hK K
      try simp only [Act.put, List.setIfInBounds_toArray, List.set_cons_zero, List.set_cons_succ]
      refine wpAnyH_ready (rs := [10]) (by kernel_rfl) (by simp) (AllReadyH.cons (o := ⟨_, _, _, _, _, _⟩) rfl (fun K hK => ?_) AllReadyH.nil)
      rewrite [if_pos (wanted_free rfl)]
      with_reducible refine wp_storeV 142 (.tmp 3) (.tmp 12) (by with_unfolding_all rfl) W.heap.size (tvr ⟨#[]⟩ 0 0) (tvr n b c) (by with_unfolding_all rfl) (by with_unfolding_all rfl) (KpM.get HKWac (List.mem_cons_self ..)) 3 Tryd.sizeTo (by with_unfolding_all rfl) (by with_unfolding_all rfl) (tvr_one _ _ _) ?_
      intro wf hAf hOf
      have HKf := KpM.put HKWac (fun x hx => by cases hx) hAf (tvr_ne _ _ _) hOf
      refine hK.out _ _ (KpM.rowH HKf).sr (fun _ => ?_)
      clear hK K
      refine wpAnyH_done (by kernel_rfl) ?_ _
      generalize W.heap.size = GA at *
      obtain ⟨r0, r1, r2⟩ := (KpM.rowH HKf).sr
      obtain ⟨x0, x1, x2⟩ := (KpM.get HKf (List.mem_cons_self ..)).tvr
      clear HKW HKWa HKWac
      go_wp2_with (first
        | (with_reducible refine wpList_cellB (w := wf) (by with_unfolding_all rfl) 4 (.tmp 24) (.const (.bool true)) (by with_unfolding_all rfl) g 2 (srv t p false) (srv t p true) true (by with_unfolding_all rfl) (by with_unfolding_all rfl) Tryd.siz1B (KpM.rowH HKf) (by simp [srv]) (by with_unfolding_all rfl) ?_; intro wz hAz hBz hFz hSz; have Oz := HKf.out.only.trans (Only.set hBz hFz hSz)))
      go_ret
      exact ⟨rfl, hAz, Oz⟩
set_option maxRecDepth 100000 in
set_option maxHeartbeats 1000000 in
theorem spTxtYes (g p : Nat) (t : ByteArray) (w : World) (hs : t.size ≤ maxLen) (hp : p ≤ t.size) (b : Nat) (n : ByteArray) (hn : textO t p = some (n, b)) (h : RowV w g (srv t p false)) :
    Calls Tryd.prog 70 #[.pointer (some ⟨g, 0, none⟩)] w fun e w' => e = .returned (.string n) ∧ RowV w' g (srv t b false) ∧ Only g w w' := by
  obtain ⟨hg, -, -, -⟩ := textO_some hn
  have hN : ∀ w0, Calls Tryd.prog 98 #[.string t, .int .i64 (p : Int)] w0 fun e w' => e = .returned (.agg #[.string n, .int .i64 (b : Int), .int .i64 0]) ∧ Below w0.heap.size w0 w' := fun w0 => by
    have := specTxt t p w0 hs (i64n (by unfold maxLen at hs; omega))
    rw [hg] at this
    exact this
  clear hg hn
  go_enter Tryd.func70, Tryd.ntmps70
  go_wp2_with fail
  refine wp_region_held_drew (S := fun w' => w'.cell? ⟨g, 0, none⟩ = some (.string t) ∧ w'.cell? ⟨g, 1, none⟩ = some (.int .i64 (p : Int)) ∧ w'.cell? ⟨g, 2, none⟩ = some (.bool false)) (by kernel_rfl) h.drew.sr (fun hHeld => ?_)
  refine wpAnyH_take (i := 0) (oi := ⟨_, _, _, _, _, _⟩) (v := .pointer (some ⟨g, 0, none⟩)) rfl (by kernel_rfl) (by kernel_rfl) (by kernel_rfl) (fun _ _ _ h => h) (Or.inl ⟨wanted_free rfl, fun w' hSw => ?_⟩) hHeld ?_
  · obtain ⟨s0, s1, s2⟩ := hSw
    go_simp
  try simp only [Act.put, List.setIfInBounds_toArray, List.set_cons_zero, List.set_cons_succ]
  refine wpAnyH_take (i := 1) (oi := ⟨_, _, _, _, _, _⟩) (v := .pointer (some ⟨g, 0, none⟩)) rfl (by kernel_rfl) (by kernel_rfl) (by kernel_rfl) (fun _ _ _ h => h) (Or.inl ⟨wanted_free rfl, fun w' hSw => ?_⟩) hHeld ?_
  · obtain ⟨s0, s1, s2⟩ := hSw
    go_simp
  try simp only [Act.put, List.setIfInBounds_toArray, List.set_cons_zero, List.set_cons_succ]
  refine wpAnyH_take (i := 2) (oi := ⟨_, _, _, _, _, _⟩) (v := .pointer (some ⟨g, 0, none⟩)) rfl (by kernel_rfl) (by kernel_rfl) (by kernel_rfl) (fun _ _ _ h => h) (Or.inl ⟨wanted_free rfl, fun w' hSw => ?_⟩) hHeld ?_
  · obtain ⟨s0, s1, s2⟩ := hSw
    go_simp
  try simp only [Act.put, List.setIfInBounds_toArray, List.set_cons_zero, List.set_cons_succ]
  refine wpAnyH_take (i := 3) (oi := ⟨_, _, _, _, _, _⟩) (v := .string t) rfl (by kernel_rfl) (by kernel_rfl) (by kernel_rfl) (fun _ _ _ h => h) (Or.inl ⟨wanted_free rfl, fun w' hSw => ?_⟩) hHeld ?_
  · obtain ⟨s0, s1, s2⟩ := hSw
    go_simp
  try simp only [Act.put, List.setIfInBounds_toArray, List.set_cons_zero, List.set_cons_succ]
  refine wpAnyH_take (i := 4) (oi := ⟨_, _, _, _, _, _⟩) (v := .pointer (some ⟨g, 0, none⟩)) rfl (by kernel_rfl) (by kernel_rfl) (by kernel_rfl) (fun _ _ _ h => h) (Or.inl ⟨wanted_free rfl, fun w' hSw => ?_⟩) hHeld ?_
  · obtain ⟨s0, s1, s2⟩ := hSw
    go_simp
  try simp only [Act.put, List.setIfInBounds_toArray, List.set_cons_zero, List.set_cons_succ]
  refine wpAnyH_take (i := 5) (oi := ⟨_, _, _, _, _, _⟩) (v := .pointer (some ⟨g, 0, none⟩)) rfl (by kernel_rfl) (by kernel_rfl) (by kernel_rfl) (fun _ _ _ h => h) (Or.inl ⟨wanted_free rfl, fun w' hSw => ?_⟩) hHeld ?_
  · obtain ⟨s0, s1, s2⟩ := hSw
    go_simp
  try simp only [Act.put, List.setIfInBounds_toArray, List.set_cons_zero, List.set_cons_succ]
  refine wpAnyH_take (i := 6) (oi := ⟨_, _, _, _, _, _⟩) (v := .pointer (some ⟨g, 1, none⟩)) rfl (by kernel_rfl) (by kernel_rfl) (by kernel_rfl) (fun _ _ _ h => h) (Or.inl ⟨wanted_free rfl, fun w' hSw => ?_⟩) hHeld ?_
  · obtain ⟨s0, s1, s2⟩ := hSw
    go_simp
  try simp only [Act.put, List.setIfInBounds_toArray, List.set_cons_zero, List.set_cons_succ]
  refine wpAnyH_take (i := 7) (oi := ⟨_, _, _, _, _, _⟩) (v := .int .i64 (p : Int)) rfl (by kernel_rfl) (by kernel_rfl) (by kernel_rfl) (fun _ _ _ h => h) (Or.inl ⟨wanted_free rfl, fun w' hSw => ?_⟩) hHeld ?_
  · obtain ⟨s0, s1, s2⟩ := hSw
    go_simp
  try simp only [Act.put, List.setIfInBounds_toArray, List.set_cons_zero, List.set_cons_succ]
  have HKW := KpM.drew (KpM.start h (srv_ne _ _ _))
  generalize w.drew = W at *
  clear hHeld h
  refine wpAnyH_ready (rs := [8, 9]) (by kernel_rfl) (by simp) (AllReadyH.cons (o := ⟨_, _, _, _, _, _⟩) rfl (fun K hK => ?_) (AllReadyH.cons (o := ⟨_, _, _, _, _, _⟩) rfl (fun K hK => ?_) AllReadyH.nil))
  · as_aux_lemma =>
    rewrite [if_pos (wanted_free rfl)]
    go_simp
    refine (hN W).mono ?_
    rintro e Wc ⟨rfl, hBWc⟩
    have HKWc := KpM.call HKW hBWc
    go_wp2_with fail
    refine hK.out _ _ (KpM.rowH HKWc).sr (fun _ => ?_)
    clear hK K
    try simp only [Act.put, List.setIfInBounds_toArray, List.set_cons_zero, List.set_cons_succ]
    refine wpAnyH_ready (rs := [9]) (by kernel_rfl) (by simp) (AllReadyH.cons (o := ⟨_, _, _, _, _, _⟩) rfl (fun K hK => ?_) AllReadyH.nil)
    rewrite [if_pos (wanted_free rfl)]
    with_reducible refine wp_allocV 142 (by with_unfolding_all rfl) (tvr ⟨#[]⟩ 0 0) Tryd.infoTo ?_
    intro Wca hAWca hBWca
    have HKWca := KpM.new HKWc hAWca (tvr_ne _ _ _) hBWca
    refine hK.out _ _ (KpM.rowH HKWca).sr (fun _ => ?_)
    clear hK K
    try simp only [Act.put, List.setIfInBounds_toArray, List.set_cons_zero, List.set_cons_succ]
    refine wpAnyH_ready (rs := [10]) (by kernel_rfl) (by simp) (AllReadyH.cons (o := ⟨_, _, _, _, _, _⟩) rfl (fun K hK => ?_) AllReadyH.nil)
    rewrite [if_pos (wanted_free rfl)]
    with_reducible refine wp_storeV 142 (.tmp 3) (.tmp 12) (by with_unfolding_all rfl) Wc.heap.size (tvr ⟨#[]⟩ 0 0) (tvr n (b : Int) 0) (by with_unfolding_all rfl) (by with_unfolding_all rfl) (KpM.get HKWca (List.mem_cons_self ..)) 3 Tryd.sizeTo (by with_unfolding_all rfl) (by with_unfolding_all rfl) (tvr_one _ _ _) ?_
    intro wf hAf hOf
    have HKf := KpM.put HKWca (fun x hx => by cases hx) hAf (tvr_ne _ _ _) hOf
    refine hK.out _ _ (KpM.rowH HKf).sr (fun _ => ?_)
    clear hK K
    refine wpAnyH_done (by kernel_rfl) ?_ _
    generalize Wc.heap.size = GA at *
    obtain ⟨r0, r1, r2⟩ := (KpM.rowH HKf).sr
    obtain ⟨x0, x1, x2⟩ := (KpM.get HKf (List.mem_cons_self ..)).tvr
    clear HKW HKWc HKWca
    go_wp2_with (first
      | (with_reducible refine wpList_cellH (w := wf) (by with_unfolding_all rfl) 2 (.tmp 29) (.tmp 27) (by with_unfolding_all rfl) g 1 (srv t p false) (srv t b false) (.int .i64 (b : Int)) (by with_unfolding_all rfl) (by with_unfolding_all rfl) rfl Tryd.siz1I (KpM.rowH HKf) (by simp [srv]) (by with_unfolding_all rfl) ?_; intro wz hAz hBz hFz hSz; have Oz := HKf.out.only.trans (Only.set hBz hFz hSz); obtain ⟨y0, y1, y2⟩ := ((Only.set hBz hFz hSz).row (KpM.get HKf (List.mem_cons_self ..)) (tvr_ne _ _ _) (by have := (HKf.out.own _ (List.mem_cons_self ..)).1; have := HKf.out.lt; simp at *; omega)).tvr))
    go_ret
    exact ⟨rfl, hAz, Oz⟩
  · as_aux_lemma =>
    rewrite [if_pos (wanted_free rfl)]
    with_reducible refine wp_allocV 142 (by with_unfolding_all rfl) (tvr ⟨#[]⟩ 0 0) Tryd.infoTo ?_
    intro Wa hAWa hBWa
    have HKWa := KpM.new HKW hAWa (tvr_ne _ _ _) hBWa
    refine hK.out _ _ (KpM.rowH HKWa).sr (fun _ => ?_)
    clear hK K
    try simp only [Act.put, List.setIfInBounds_toArray, List.set_cons_zero, List.set_cons_succ]
    refine wpAnyH_ready (rs := [8]) (by kernel_rfl) (by simp) (AllReadyH.cons (o := ⟨_, _, _, _, _, _⟩) rfl (fun K hK => ?_) AllReadyH.nil)
    rewrite [if_pos (wanted_free rfl)]
    go_simp
    refine (hN Wa).mono ?_
    rintro e Wac ⟨rfl, hBWac⟩
    have HKWac := KpM.call HKWa hBWac
    go_wp2_with fail
    refine hK.out _ _ (KpM.rowH HKWac).sr (fun _ => ?_)
    clear hK K
    try simp only [Act.put, List.setIfInBounds_toArray, List.set_cons_zero, List.set_cons_succ]
    refine wpAnyH_ready (rs := [10]) (by kernel_rfl) (by simp) (AllReadyH.cons (o := ⟨_, _, _, _, _, _⟩) rfl (fun K hK => ?_) AllReadyH.nil)
    rewrite [if_pos (wanted_free rfl)]
    with_reducible refine wp_storeV 142 (.tmp 3) (.tmp 12) (by with_unfolding_all rfl) W.heap.size (tvr ⟨#[]⟩ 0 0) (tvr n (b : Int) 0) (by with_unfolding_all rfl) (by with_unfolding_all rfl) (KpM.get HKWac (List.mem_cons_self ..)) 3 Tryd.sizeTo (by with_unfolding_all rfl) (by with_unfolding_all rfl) (tvr_one _ _ _) ?_
    intro wf hAf hOf
    have HKf := KpM.put HKWac (fun x hx => by cases hx) hAf (tvr_ne _ _ _) hOf
    refine hK.out _ _ (KpM.rowH HKf).sr (fun _ => ?_)
    clear hK K
    refine wpAnyH_done (by kernel_rfl) ?_ _
    generalize W.heap.size = GA at *
    obtain ⟨r0, r1, r2⟩ := (KpM.rowH HKf).sr
    obtain ⟨x0, x1, x2⟩ := (KpM.get HKf (List.mem_cons_self ..)).tvr
    clear HKW HKWa HKWac
    go_wp2_with (first
      | (with_reducible refine wpList_cellH (w := wf) (by with_unfolding_all rfl) 2 (.tmp 29) (.tmp 27) (by with_unfolding_all rfl) g 1 (srv t p false) (srv t b false) (.int .i64 (b : Int)) (by with_unfolding_all rfl) (by with_unfolding_all rfl) rfl Tryd.siz1I (KpM.rowH HKf) (by simp [srv]) (by with_unfolding_all rfl) ?_; intro wz hAz hBz hFz hSz; have Oz := HKf.out.only.trans (Only.set hBz hFz hSz); obtain ⟨y0, y1, y2⟩ := ((Only.set hBz hFz hSz).row (KpM.get HKf (List.mem_cons_self ..)) (tvr_ne _ _ _) (by have := (HKf.out.own _ (List.mem_cons_self ..)).1; have := HKf.out.lt; simp at *; omega)).tvr))
    go_ret
    exact ⟨rfl, hAz, Oz⟩
/- What num tells, whatever the reader's state. -/
def TxtR (t : ByteArray) (p : Nat) (bad : Bool) (n : ByteArray) (p' : Nat) (bad' : Bool) : Prop := p' ≤ t.size ∧ ((bad = false ∧ textO t p = some (n, p') ∧ bad' = false) ∨ ((bad = true ∨ textO t p = none) ∧ bad' = true ∧ n = ⟨#[]⟩))
theorem spTxt (g p : Nat) (t : ByteArray) (w : World) (hs : t.size ≤ maxLen) (hp : p ≤ t.size) (bad : Bool) (h : RowV w g (srv t p bad)) :
    Calls Tryd.prog 70 #[.pointer (some ⟨g, 0, none⟩)] w fun e w' => ∃ n p' bad', e = .returned (.string n) ∧ TxtR t p bad n p' bad' ∧ RowV w' g (srv t p' bad') ∧ Only g w w' := by
  by_cases hb : bad = true ∨ textO t p = none
  · refine (spTxtBad g p t w hs hp bad hb h).mono ?_
    rintro e w' ⟨rfl, h1, h2⟩
    exact ⟨⟨#[]⟩, p, true, rfl, ⟨hp, Or.inr ⟨hb, rfl, rfl⟩⟩, h1, h2⟩
  · have hb1 : bad = false := by cases bad with
      | true => exact absurd (Or.inl rfl) hb
      | false => rfl
    subst hb1
    cases hn : textO t p with
    | none => exact absurd (Or.inr hn) hb
    | some x =>
      obtain ⟨n, b⟩ := x
      refine (spTxtYes g p t w hs hp b n hn h).mono ?_
      rintro e w' ⟨rfl, h1, h2⟩
      exact ⟨n, b, false, rfl, ⟨(textO_some hn).2.1, Or.inl ⟨rfl, hn, rfl⟩⟩, h1, h2⟩
/- What many tells, whatever the reader's state. -/
def ManR (t : ByteArray) (p : Nat) (bad : Bool) (m k : Nat) (p' : Nat) (bad' : Bool) : Prop := p' ≤ t.size ∧ k ≤ m ∧ ((bad = false ∧ countO t p m = some (k, p') ∧ bad' = false) ∨ ((bad = true ∨ countO t p m = none) ∧ bad' = true))
theorem countO_out {t : ByteArray} {p m b : Nat} {n : Int} (h : numO t p = some (n, b)) (hn : ¬ (0 ≤ n ∧ n ≤ (m : Int))) : countO t p m = none := by
  unfold countO
  rw [h]
  simp only
  rw [if_neg hn]
theorem countO_in {t : ByteArray} {p m b k : Nat} (h : numO t p = some ((k : Int), b)) (hn : k ≤ m) : countO t p m = some (k, b) := by
  unfold countO
  rw [h]
  simp only
  rw [if_pos ⟨by omega, by omega⟩]
  simp
theorem countO_non {t : ByteArray} {p m : Nat} (h : numO t p = none) : countO t p m = none := by
  unfold countO
  rw [h]
set_option maxRecDepth 100000 in
set_option maxHeartbeats 1000000 in
theorem spMany (g p m : Nat) (t : ByteArray) (w : World) (hs : t.size ≤ maxLen) (hp : p ≤ t.size) (bad : Bool) (h : RowV w g (srv t p bad)) :
    Calls Tryd.prog 71 #[.pointer (some ⟨g, 0, none⟩), .int .i64 (m : Int)] w fun e w' => ∃ k p' bad', e = .returned (.int .i64 (k : Nat)) ∧ ManR t p bad m k p' bad' ∧ RowV w' g (srv t p' bad') ∧ Only g w w' := by
  have HN : Hid (Calls Tryd.prog 73 #[.pointer (some ⟨g, 0, none⟩)] w fun e w' => ∃ n p' bad', e = .returned (.int .i64 n) ∧ NumR t p bad n p' bad' ∧ RowV w' g (srv t p' bad') ∧ Only g w w') := spNum g p t w hs hp bad h
  clear h
  go_enter Tryd.func71, Tryd.ntmps71
  go_wp2_with fail
  refine Calls.mono HN.out ?_
  rintro e w1 ⟨n, p', d', rfl, hr, hA1, hO1⟩
  obtain ⟨hp', hr⟩ := hr
  clear HN
  by_cases hin : 0 ≤ n ∧ n ≤ (m : Int)
  · obtain ⟨k, rfl⟩ : ∃ k : Nat, n = (k : Int) := ⟨n.toNat, by omega⟩
    have d1 : decide ((k : Int) < 0) = false := decide_eq_false (by omega)
    have d2 : decide ((m : Int) < (k : Int)) = false := decide_eq_false (by omega)
    have d3 : decide (m < k) = false := decide_eq_false (by omega)
    obtain ⟨c0, c1, c2⟩ := hA1.sr
    cases d' with
    | false =>
      have HM : Hid (ManR t p bad m k p' false) := ⟨hp', by omega, Or.inl (by
        rcases hr with ⟨e1, e2, _⟩ | ⟨_, e3⟩
        · exact ⟨e1, countO_in e2 (by omega), rfl⟩
        · cases e3)⟩
      clear hr
      go_wp2
      go_ret
      exact ⟨k, p', false, rfl, HM.out, hA1, hO1⟩
    | true =>
      have HM : Hid (ManR t p bad m 0 p' true) := ⟨hp', by omega, Or.inr (by
        rcases hr with ⟨_, _, e3⟩ | ⟨e1, _⟩
        · cases e3
        · exact ⟨e1.imp id countO_non, rfl⟩)⟩
      clear hr
      go_wp2
      go_ret
      exact ⟨0, p', true, rfl, HM.out, hA1, hO1⟩
  · have HM : Hid (ManR t p bad m 0 p' true) := ⟨hp', by omega, Or.inr ⟨by
      rcases hr with ⟨_, e2, _⟩ | ⟨e1, _⟩
      · exact Or.inr (countO_out e2 hin)
      · exact e1.imp id countO_non, rfl⟩⟩
    clear hr
    by_cases h0 : n < 0
    · have d1 : decide (n < 0) = true := decide_eq_true h0
      clear hin
      go_wp2_with (first
        | (with_reducible refine wpList_cellB (w := w1) (by with_unfolding_all rfl) 4 (.tmp 17) (.const (.bool true)) (by with_unfolding_all rfl) g 2 (srv t p' d') (srv t p' true) true (by with_unfolding_all rfl) (by with_unfolding_all rfl) Tryd.siz1B hA1 (by simp [srv]) (by with_unfolding_all rfl) ?_; intro wz hAz hBz hFz hSz; obtain ⟨c0, c1, c2⟩ := hAz.sr))
      go_ret
      exact ⟨0, p', true, rfl, HM.out, hAz, hO1.trans (Only.set hBz hFz hSz)⟩
    · have d1 : decide (n < 0) = false := decide_eq_false h0
      have d2 : decide ((m : Int) < n) = true := decide_eq_true (by omega)
      clear hin
      go_wp2_with (first
        | (with_reducible refine wpList_cellB (w := w1) (by with_unfolding_all rfl) 4 (.tmp 17) (.const (.bool true)) (by with_unfolding_all rfl) g 2 (srv t p' d') (srv t p' true) true (by with_unfolding_all rfl) (by with_unfolding_all rfl) Tryd.siz1B hA1 (by simp [srv]) (by with_unfolding_all rfl) ?_; intro wz hAz hBz hFz hSz; obtain ⟨c0, c1, c2⟩ := hAz.sr))
      go_ret
      exact ⟨0, p', true, rfl, HM.out, hAz, hO1.trans (Only.set hBz hFz hSz)⟩
end Go.Proofs.YtchfpiadfmnphaaDoor
namespace Go.Proofs.YtchfpiadfmnphaaDoor
open Go.RowKit
set_option linter.unusedVariables false

def BytR (t : ByteArray) (p : Nat) (bad : Bool) (x : ByteArray) (p' : Nat) (bad' : Bool) : Prop := p' ≤ t.size ∧ ((bad = false ∧ bytesO t p 32 = some (x, p') ∧ bad' = false) ∨ ((bad = true ∨ bytesO t p 32 = none) ∧ bad' = true ∧ x = ⟨#[]⟩))
theorem spByt (g p : Nat) (t : ByteArray) (w : World) (hs : t.size ≤ maxLen) (hp : p ≤ t.size) (bad : Bool) (h : RowV w g (srv t p bad)) :
    Calls Tryd.prog 72 #[.pointer (some ⟨g, 0, none⟩), .int .i64 32] w fun e w' => ∃ x p' bad', e = .returned (.string x) ∧ BytR t p bad x p' bad' ∧ RowV w' g (srv t p' bad') ∧ Only g w w' := by
  by_cases hb : bad = true ∨ t.size < p + 32
  · refine (spBytesBad g p 32 t w hs hp (by omega) bad hb h).mono ?_
    rintro e w' ⟨rfl, h1, h2⟩
    refine ⟨⟨#[]⟩, p, true, rfl, ⟨hp, Or.inr ⟨hb.imp id (fun hh => ?_), rfl, rfl⟩⟩, h1, h2⟩
    unfold bytesO
    rw [if_neg (by omega)]
  · have hbf : bad = false := by
      cases bad with
      | false => rfl
      | true => exact absurd (Or.inl rfl) hb
    subst hbf
    have hq : p + 32 ≤ t.size := by
      by_cases h3 : t.size < p + 32
      · exact absurd (Or.inr h3) hb
      · omega
    refine (spBytesYes g p 32 (p + 32) t w hs rfl hq h).mono ?_
    rintro e w' ⟨rfl, h1, h2⟩
    exact ⟨_, p + 32, false, rfl, ⟨hq, Or.inl ⟨rfl, by unfold bytesO; rw [if_pos hq], rfl⟩⟩, h1, h2⟩
end Go.Proofs.YtchfpiadfmnphaaDoor
namespace Go.Proofs.YtchfpiadfmnphaaDoor
open Go.RowKit
set_option linter.unusedVariables false

def i1v (c : Int) : List Value := [.int .i64 c]
theorem i1v_ne (c : Int) : i1v c ≠ [] := by simp [i1v]
end Go.Proofs.YtchfpiadfmnphaaDoor
namespace Go.Proofs.YtchfpiadfmnphaaDoor
open Go.RowKit
set_option linter.unusedVariables false

theorem wpList_alloc1 {P : Program} {ops : Array Oper} {rest : List Oper} {o : Oper} {a : Act} {w : World} {Q : Exit → Act → World → Prop} (hg : o.guard = none) (t : TypeId) (ho : o.op = .alloc t) (z : Int)
    (hi : (P.info? t).map (fun i => i.zero) = some (some (.int .i64 z)))
    (h : ∀ w', RowV w' w.heap.size (i1v z) → Below w.heap.size w w' → w'.heap.size = w.heap.size + 1 → wpList P ops Q rest (a.put o.dst (.pointer (some ⟨w.heap.size, 0, none⟩))) w') : wpList P ops Q (o :: rest) a w := by
  refine wpList_plain hg fun K hK => ?_
  cases hq : P.info? t with
  | none => simp [hq] at hi
  | some i =>
    have hz : i.zero = some (.int .i64 z) := by simpa [hq] using hi
    unfold Oper.wp execOp
    simp only [ho, Sem.run_bind, Instr.alloc, zeroValue, run_typeInfo w hq, hz, newVar, newRow, run_newObj_alloc, Sem.run_pure, Result.andThen_ok]
    exact hK _ _ (h _ (RowV.new w (i1v z) t) ((Below.refl _ _).alloc (Nat.le_refl _) _) (Array.size_push _))
theorem Tryd.zeroI : (Tryd.prog.info? 2).map (fun i => i.zero) = some (some (.int .i64 0)) := by kernel_rfl
theorem results_V2 {P : Program} {fn : Func} {a b : Tmp} {t t2 : TypeId} {w : World} (h : fn.results = #[.cell a t, .cell b t2]) (tmps : Array Value) (g : Nat) (l : List Value) (hx : tmps.getD a undef = .pointer (some ⟨g, 0, none⟩))
    (hl : RowV w g l) (hu : ∃ d, P.underlying t = some d ∧ d.isRow = true) (n : Nat) (hi : (P.info? t).map (·.size) = some n) (hn : l.length = n) (g2 : Nat) (c : Int) (hx2 : tmps.getD b undef = .pointer (some ⟨g2, 0, none⟩)) (hl2 : RowV w g2 (i1v c)) (ht2 : P.underlying t2 = some (.int .i64)) :
    (results fn tmps).run P w = .ok (.tuple #[.agg l.toArray, .int .i64 c]) w := by
  obtain ⟨d, hd, hr⟩ := hu
  have := run_loadVar_mid (P := P) w g 0 t l d hl.rng hd hr (by rw [hn]; exact hi)
  rw [Array.getD_eq_getD_getElem?] at hx hx2
  have hc : w.cell? ⟨g2, 0, none⟩ = some (.int .i64 c) := hl2.cell (k := 0) rfl
  have h2 : (loadVar t2 ⟨g2, 0, none⟩).run P w = .ok (.int .i64 c) w := by simp [loadVar, isAgg, run_underlying ht2, go_sem, hc]
  simp [results, h, hx, hx2, asAddr, this, h2]
theorem leaves_tmps {P : Program} {fn : Func} {tmps tmps' : Array Value} {R : Ending → World → Prop} (h : results fn tmps = results fn tmps') : ∀ (ds : List Deferred) (u : FrameMode) (w : World), Leaves P fn tmps R ds u w → Leaves P fn tmps' R ds u w
  | [], .returning, w, hL => by
    obtain ⟨v, h1, h2⟩ := hL
    exact ⟨v, by rw [← h]; exact h1, h2⟩
  | [], .panicking chain, w, hL => hL
  | [], .run, w, hL => hL
  | d :: ds, u, w, hL => by
    obtain ⟨h0, fv, cap, f, args, h1, h2, h3⟩ := hL
    refine ⟨h0, fv, cap, f, args, h1, h2, h3.mono (fun e u' w' hh => ?_)⟩
    cases e with
    | returned v => exact leaves_tmps h ds _ _ hh
    | panicked c => exact leaves_tmps h ds _ _ hh
    | outgrown => exact hh
theorem pair_ret {a b : Value} {x y : Value} (h1 : a = x) (h2 : b = y) : Ending.returned (.tuple #[a, b]) = .returned (.tuple #[x, y]) := by rw [h1, h2]
end Go.Proofs.YtchfpiadfmnphaaDoor
namespace Go.Proofs.YtchfpiadfmnphaaDoor
open Go.RowKit
set_option linter.unusedVariables false

abbrev zm : List Value := [.string ⟨#[]⟩, .slice none 0 0, .slice none 0 0]
theorem zm_ne : zm ≠ [] := by simp
theorem zm_one : ∀ v ∈ zm, v.oneCell' = true := List.all_eq_true.1 (by decide)
set_option maxRecDepth 100000 in
set_option maxHeartbeats 1000000 in
theorem catchPm (G6 G7 : Nat) (l : List Value) (hl : l.length = 3) (c : Int) (w : World) (hne : G6 ≠ G7) (h6 : RowV w G6 l) (h7 : RowV w G7 (i1v c)) :
    CallsD Tryd.prog 76 #[.pointer (some ⟨G6, 0, none⟩), .pointer (some ⟨G7, 0, none⟩)] (.panicking [{ v := faultV, recovered := false }]) w fun e u' w' =>
      e = .returned (.tuple #[]) ∧ u' = .panicking [{ v := faultV, recovered := true }] ∧ RowV w' G6 zm ∧ RowV w' G7 (i1v 3) ∧ ∀ B, B ≤ G6 → B ≤ G7 → Below B w w' := by
  refine callsD_of_wpS Tryd.func76 rfl fun c₀ cs hu => ?_
  apply wpS_seq
  apply wpS_region
  simp [wpOpsS, go_sem, recoverD, hu, Tryd.ntmps76, Exit.thenS]
  refine wpS_cond (t := true) (by simp [Act.eval, Array.replicate]) ?_
  simp only [if_true]
  refine wpS_of_wp ?_
  have hact : (#[Value.pointer (some { block := G6, off := 0 }), Value.pointer (some { block := G7, off := 0 })] ++ ((Array.replicate 4 undef).setIfInBounds 1 faultV).setIfInBounds 2 (Value.bool true) : Array Value) = #[.pointer (some ⟨G6, 0, none⟩), .pointer (some ⟨G7, 0, none⟩), undef, faultV, .bool true, undef] := rfl
  rw [hact]
  clear hact
  have z6 := h6.lt (show l ≠ [] from fun e => by rw [e] at hl; cases hl)
  have z7 := h7.lt (i1v_ne _)
  go_wp2_with (first
    | (with_reducible refine wpList_allocV (w := w) (by with_unfolding_all rfl) 41 (by with_unfolding_all rfl) zm Tryd.zT_implManifest ?_; intro w1 hA1 hB1 hS1; clear hS1; have R6 := h6.below hB1 z6; have R7 := h7.below hB1 z7)
    | (with_reducible refine wpList_loadV (w := w1) (by with_unfolding_all rfl) 41 (.tmp 2) (by with_unfolding_all rfl) w.heap.size zm (by with_unfolding_all rfl) hA1 Tryd.uT_implManifest 3 Tryd.sT_implManifest (by with_unfolding_all rfl) ?_)
    | (with_reducible refine wpList_storeH (w := w1) (by with_unfolding_all rfl) 41 (.tmp 0) (.tmp 5) (by with_unfolding_all rfl) G6 l zm (by with_unfolding_all rfl) (by with_unfolding_all rfl) R6 3 Tryd.sT_implManifest hl rfl zm_one ?_; intro w2 hA2 hB2 hF2 hS2; have Q7 := (Only.set hB2 hF2 hS2).row R7 (i1v_ne _) (Ne.symm hne))
    | (with_reducible refine wpList_cellH (w := w2) (by with_unfolding_all rfl) 2 (.tmp 1) (.const (.int .i64 3)) (by with_unfolding_all rfl) G7 0 (i1v c) (i1v 3) (.int .i64 3) (by with_unfolding_all rfl) (by with_unfolding_all rfl) rfl Tryd.siz1I Q7 (by simp [i1v]) (by with_unfolding_all rfl) ?_; intro w3 hA3 hB3 hF3 hS3; have Q6 := (Only.set hB3 hF3 hS3).row hA2 zm_ne hne; have HB : ∀ B, B ≤ G6 → B ≤ G7 → Below B w w3 := fun B b1 b2 => ((hB1.mono (Nat.le_trans b1 (Nat.le_of_lt z6))).trans (hB2 B b1)).trans (hB3 B b2)))
  simp [bodyPostS, results, Tryd.results76]
  exact ⟨Q6, hA3, HB⟩
set_option maxRecDepth 100000 in
theorem catchRm (x y : Option Addr) (w : World) :
    CallsD Tryd.prog 76 #[.pointer x, .pointer y] .returning w fun e u' w' => e = .returned (.tuple #[]) ∧ u' = .returning ∧ w = w' := by
  refine callsD_of_wpS Tryd.func76 rfl fun c₀ cs hu => ?_
  apply wpS_seq
  apply wpS_region
  simp [wpOpsS, go_sem, recoverD, hu, Tryd.ntmps76, Exit.thenS]
  refine wpS_cond (t := false) (by simp [Act.eval, Array.replicate]) ?_
  simp only [Bool.false_eq_true, if_false]
  refine wpS_of_wp (wp_skip ?_)
  cases c₀
  simp_all [bodyPostS, results, Tryd.results76]
theorem rw_putm {R : Ending → World → Prop} {c : List PanicEntry} {a : Act} {k : Nat} {v : Value} {w : World} (h6 : k ≠ 6) (h7 : k ≠ 7) (h : bodyPostD Tryd.prog Tryd.f52 R (.panic c) (a.put (some k) v) w) : bodyPostD Tryd.prog Tryd.f52 R (.panic c) a w := by
  refine leaves_tmps ?_ _ _ _ h
  simp [results, Tryd.results52, Act.put, Array.getElem?_setIfInBounds_ne h6, Array.getElem?_setIfInBounds_ne h7]
set_option maxRecDepth 100000 in
set_option maxHeartbeats 1000000 in
theorem rmBig (t m : ByteArray) (f : Value) (w : World) (hs : t.size ≤ maxLen) (hb : 20000 < t.size) :
    Calls Tryd.prog 52 #[.string t, .string m, f] w fun e w' => e = .returned (.tuple #[.agg #[.string ⟨#[]⟩, .slice none 0 0, .slice none 0 0], .int .i64 2]) ∧ Below w.heap.size w w' := by
  unfold maxLen at hs
  have d1 : decide ((20000 : Int) < (t.size : Int)) = true := decide_eq_true (by omega)
  go_enter_defers Tryd.func52, Tryd.ntmps52
  go_wp2_with (first
    | (with_reducible refine wpList_allocV (w := w) (by with_unfolding_all rfl) 41 (by with_unfolding_all rfl) zm Tryd.zT_implManifest ?_; intro w1 hA1 hB1 hS1; have z1 : w.heap.size < w1.heap.size := (by omega); clear hS1)
    | (with_reducible refine wpList_alloc1 (w := w1) (by with_unfolding_all rfl) 2 (by with_unfolding_all rfl) 0 Tryd.zeroI ?_; intro w2 hA2 hB2 hS2; clear hS2; have R2 := hA1.below hB2 z1)
    | (with_reducible refine wpList_loadV (w := w2) (by with_unfolding_all rfl) 41 (.tmp 6) (by with_unfolding_all rfl) w.heap.size zm (by with_unfolding_all rfl) R2 Tryd.uT_implManifest 3 Tryd.sT_implManifest (by with_unfolding_all rfl) ?_)
    | (with_reducible refine wpList_storeH (w := w2) (by with_unfolding_all rfl) 41 (.tmp 6) (.tmp 12) (by with_unfolding_all rfl) w.heap.size zm zm (by with_unfolding_all rfl) (by with_unfolding_all rfl) R2 3 Tryd.sT_implManifest rfl rfl zm_one ?_; intro w3 hA3 hB3 hF3 hS3; have Q3 := (Only.set hB3 hF3 hS3).row hA2 (i1v_ne _) (Nat.ne_of_gt z1))
    | (with_reducible refine wpList_cellH (w := w3) (by with_unfolding_all rfl) 2 (.tmp 7) (.const (.int .i64 2)) (by with_unfolding_all rfl) w1.heap.size 0 (i1v 0) (i1v 2) (.int .i64 2) (by with_unfolding_all rfl) (by with_unfolding_all rfl) rfl Tryd.siz1I Q3 (by simp [i1v]) (by with_unfolding_all rfl) ?_; intro w4 hA4 hB4 hF4 hS4; have Q4 := (Only.set hB4 hF4 hS4).row hA3 zm_ne (Nat.ne_of_lt z1); have B4 : Below w.heap.size w w4 := ((hB1.trans (hB2.mono (Nat.le_of_lt z1))).trans (hB3 _ (Nat.le_refl _))).trans (hB4 _ (Nat.le_of_lt z1))))
  exact ⟨_, results_V2 rfl _ w.heap.size zm rfl Q4 Tryd.uT_implManifest 3 Tryd.sT_implManifest rfl w1.heap.size 2 rfl hA4 Tryd.underlying2, rfl, B4⟩
set_option maxRecDepth 100000 in
set_option maxHeartbeats 1000000 in
theorem rmPassNo (t m : ByteArray) (w : World) (hs : t.size ≤ 20000) (hP : ∀ g w0, RowV w0 g (cuv t 0) → Calls Tryd.prog 77 #[.pointer (some ⟨g, 0, none⟩), .string m] w0 fun e w' => e = .panicked [{ v := faultV, recovered := false }] ∧ Only g w0 w') :
    Calls Tryd.prog 52 #[.string t, .string m, .func (.func 53) #[] #[]] w fun e w' => e = .returned (.tuple #[.agg #[.string ⟨#[]⟩, .slice none 0 0, .slice none 0 0], .int .i64 3]) ∧ Below w.heap.size w w' := by
  have d1 : decide ((20000 : Int) < (t.size : Int)) = false := decide_eq_false (by omega)
  have hmf : ∀ (fn : Fn) (first cap : Array Value) (w : World), (Instr.makeFunc fn first cap).run Tryd.prog w = .ok (.func fn first cap) w := fun _ _ _ _ => rfl
  go_enter_defers Tryd.func52, Tryd.ntmps52
  go_wp2_with (first
    | (with_reducible refine wpList_allocV (w := w) (by with_unfolding_all rfl) 41 (by with_unfolding_all rfl) zm Tryd.zT_implManifest ?_; intro w1 hA1 hB1 hS1; have z1 : w.heap.size < w1.heap.size := (by omega); clear hS1)
    | (with_reducible refine wpList_alloc1 (w := w1) (by with_unfolding_all rfl) 2 (by with_unfolding_all rfl) 0 Tryd.zeroI ?_; intro w2 hA2 hB2 hS2; have z2 : w1.heap.size < w2.heap.size := (by omega); clear hS2; have R2 := hA1.below hB2 z1; have B02 : Below w.heap.size w w2 := hB1.trans (hB2.mono (Nat.le_of_lt z1)))
    | (with_reducible refine wpList_boxV (w := w2) (by with_unfolding_all rfl) 122 (.tmp 16) (by with_unfolding_all rfl) (cuv t 0) (by with_unfolding_all rfl) ?_; intro w3 hA3 hB3 hS3; clear hS3; have R3 := R2.below hB3 (Nat.lt_trans z1 z2); have S3 := hA2.below hB3 z2; have B03 : Below w.heap.size w w3 := B02.trans (hB3.mono (Nat.le_of_lt (Nat.lt_trans z1 z2))); obtain ⟨c0, c1⟩ := hA3.cu)
    | (go_at_call 77; with_reducible refine (hP _ w3 hA3).mono ?_; rintro r w4 ⟨rfl, hO4⟩; have R4 := hO4.row R3 zm_ne (Nat.ne_of_lt (Nat.lt_trans z1 z2)); have S4 := hO4.row S3 (i1v_ne _) (Nat.ne_of_lt z2); have B04 : Below w.heap.size w w4 := B03.trans (hO4.bel (Nat.le_of_lt (Nat.lt_trans z1 z2)))))
  refine leaves_cons (f := 76) (args := #[.pointer (some ⟨w.heap.size, 0, none⟩), .pointer (some ⟨w1.heap.size, 0, none⟩)]) (by simp) (by simp [go_sem]) ?_
  refine (catchPm w.heap.size w1.heap.size zm rfl 0 w4 (Nat.ne_of_lt z1) R4 S4).mono ?_
  rintro e u' w9 ⟨rfl, rfl, q6, q7, qB⟩
  exact ⟨_, results_V2 rfl _ w.heap.size zm rfl q6 Tryd.uT_implManifest 3 Tryd.sT_implManifest rfl w1.heap.size 3 rfl q7 Tryd.underlying2, rfl, B04.trans (qB _ (Nat.le_refl _) (Nat.le_of_lt z1))⟩
set_option maxRecDepth 100000 in
set_option maxHeartbeats 1000000 in
theorem rmReadNo (t m : ByteArray) (w : World) (hs : t.size ≤ 20000) (hP : ∀ g w0, RowV w0 g (cuv t 0) → Calls Tryd.prog 77 #[.pointer (some ⟨g, 0, none⟩), .string m] w0 fun e w' => e = .returned (.tuple #[]) ∧ RowV w' g (cuv t 1) ∧ Only g w0 w') (hK : ∀ g w0, RowV w0 g (cuv t 1) → Calls Tryd.prog 53 #[.pointer (some ⟨g, 0, none⟩)] w0 fun e w' => e = .panicked [{ v := faultV, recovered := false }] ∧ Only g w0 w') :
    Calls Tryd.prog 52 #[.string t, .string m, .func (.func 53) #[] #[]] w fun e w' => e = .returned (.tuple #[.agg #[.string ⟨#[]⟩, .slice none 0 0, .slice none 0 0], .int .i64 3]) ∧ Below w.heap.size w w' := by
  have d1 : decide ((20000 : Int) < (t.size : Int)) = false := decide_eq_false (by omega)
  have hmf : ∀ (fn : Fn) (first cap : Array Value) (w : World), (Instr.makeFunc fn first cap).run Tryd.prog w = .ok (.func fn first cap) w := fun _ _ _ _ => rfl
  go_enter_defers Tryd.func52, Tryd.ntmps52
  go_wp2_with (first
    | (with_reducible refine wpList_allocV (w := w) (by with_unfolding_all rfl) 41 (by with_unfolding_all rfl) zm Tryd.zT_implManifest ?_; intro w1 hA1 hB1 hS1; have z1 : w.heap.size < w1.heap.size := (by omega); clear hS1)
    | (with_reducible refine wpList_alloc1 (w := w1) (by with_unfolding_all rfl) 2 (by with_unfolding_all rfl) 0 Tryd.zeroI ?_; intro w2 hA2 hB2 hS2; have z2 : w1.heap.size < w2.heap.size := (by omega); clear hS2; have R2 := hA1.below hB2 z1; have B02 : Below w.heap.size w w2 := hB1.trans (hB2.mono (Nat.le_of_lt z1)))
    | (with_reducible refine wpList_boxV (w := w2) (by with_unfolding_all rfl) 122 (.tmp 16) (by with_unfolding_all rfl) (cuv t 0) (by with_unfolding_all rfl) ?_; intro w3 hA3 hB3 hS3; clear hS3; have R3 := R2.below hB3 (Nat.lt_trans z1 z2); have S3 := hA2.below hB3 z2; have B03 : Below w.heap.size w w3 := B02.trans (hB3.mono (Nat.le_of_lt (Nat.lt_trans z1 z2))); obtain ⟨c0, c1⟩ := hA3.cu)
    | (go_at_call 77; with_reducible refine (hP _ w3 hA3).mono ?_; rintro r w4 ⟨rfl, hA4, hO4⟩; have R4 := hO4.row R3 zm_ne (Nat.ne_of_lt (Nat.lt_trans z1 z2)); have S4 := hO4.row S3 (i1v_ne _) (Nat.ne_of_lt z2); have B04 : Below w.heap.size w w4 := B03.trans (hO4.bel (Nat.le_of_lt (Nat.lt_trans z1 z2))); have z04 := Nat.lt_of_lt_of_le (Nat.lt_trans z1 z2) (Nat.le_trans hB3.size hO4.size); have z14 := Nat.lt_of_lt_of_le z2 (Nat.le_trans hB3.size hO4.size); clear c0 c1)
    | (go_at_call 53; with_reducible refine (hK _ w4 hA4).mono ?_; rintro r w5 ⟨rfl, hO5⟩; have R5 := hO5.row R4 zm_ne (Nat.ne_of_lt (Nat.lt_trans z1 z2)); have S5 := hO5.row S4 (i1v_ne _) (Nat.ne_of_lt z2); have B05 : Below w.heap.size w w5 := B04.trans (hO5.bel (Nat.le_of_lt (Nat.lt_trans z1 z2)))))
  refine leaves_cons (f := 76) (args := #[.pointer (some ⟨w.heap.size, 0, none⟩), .pointer (some ⟨w1.heap.size, 0, none⟩)]) (by simp) (by simp [go_sem]) ?_
  refine (catchPm w.heap.size w1.heap.size zm rfl 0 w5 (Nat.ne_of_lt z1) R5 S5).mono ?_
  rintro e u' w9 ⟨rfl, rfl, q6, q7, qB⟩
  exact ⟨_, results_V2 rfl _ w.heap.size zm rfl q6 Tryd.uT_implManifest 3 Tryd.sT_implManifest rfl w1.heap.size 3 rfl q7 Tryd.underlying2, rfl, B05.trans (qB _ (Nat.le_refl _) (Nat.le_of_lt z1))⟩
set_option maxRecDepth 100000 in
set_option maxHeartbeats 1000000 in
theorem rmEndNo (t m : ByteArray) (w : World) (hs : t.size ≤ 20000) (hP : ∀ g w0, RowV w0 g (cuv t 0) → Calls Tryd.prog 77 #[.pointer (some ⟨g, 0, none⟩), .string m] w0 fun e w' => e = .returned (.tuple #[]) ∧ RowV w' g (cuv t 1) ∧ Only g w0 w') (Q : List Value → World → Prop) (F : List Value → Nat → Nat → Prop) (hM : ∀ L a b c d, F L a b → c ≤ a → b ≤ d → F L c d) (b : Nat) (hK : ∀ g w0, RowV w0 g (cuv t 1) → Calls Tryd.prog 53 #[.pointer (some ⟨g, 0, none⟩)] w0 fun r w' => ∃ L, r = .returned (.agg L.toArray) ∧ L.length = 3 ∧ L.all Value.oneCell' = true ∧ F L w0.heap.size w'.heap.size ∧ RowV w' g (cuv t b) ∧ Only g w0 w' ∧ Made w0 w' (Q L)) (hb : b ≤ t.size) (hne : ¬ b = t.size) :
    Calls Tryd.prog 52 #[.string t, .string m, .func (.func 53) #[] #[]] w fun e w' => e = .returned (.tuple #[.agg #[.string ⟨#[]⟩, .slice none 0 0, .slice none 0 0], .int .i64 3]) ∧ Below w.heap.size w w' := by
  have e1 : ((b : Int) == (t.size : Int)) = false := beq_eq_false_iff_ne.2 (by omega)
  have e2 : (b == t.size) = false := beq_eq_false_iff_ne.2 hne
  have d1 : decide ((20000 : Int) < (t.size : Int)) = false := decide_eq_false (by omega)
  have hmf : ∀ (fn : Fn) (first cap : Array Value) (w : World), (Instr.makeFunc fn first cap).run Tryd.prog w = .ok (.func fn first cap) w := fun _ _ _ _ => rfl
  go_enter_defers Tryd.func52, Tryd.ntmps52
  go_wp2_with (first
    | (with_reducible refine wpList_allocV (w := w) (by with_unfolding_all rfl) 41 (by with_unfolding_all rfl) zm Tryd.zT_implManifest ?_; intro w1 hA1 hB1 hS1; have z1 : w.heap.size < w1.heap.size := (by omega); clear hS1)
    | (with_reducible refine wpList_alloc1 (w := w1) (by with_unfolding_all rfl) 2 (by with_unfolding_all rfl) 0 Tryd.zeroI ?_; intro w2 hA2 hB2 hS2; have z2 : w1.heap.size < w2.heap.size := (by omega); clear hS2; have R2 := hA1.below hB2 z1; have B02 : Below w.heap.size w w2 := hB1.trans (hB2.mono (Nat.le_of_lt z1)))
    | (with_reducible refine wpList_boxV (w := w2) (by with_unfolding_all rfl) 122 (.tmp 16) (by with_unfolding_all rfl) (cuv t 0) (by with_unfolding_all rfl) ?_; intro w3 hA3 hB3 hS3; clear hS3; have R3 := R2.below hB3 (Nat.lt_trans z1 z2); have S3 := hA2.below hB3 z2; have B03 : Below w.heap.size w w3 := B02.trans (hB3.mono (Nat.le_of_lt (Nat.lt_trans z1 z2))); obtain ⟨c0, c1⟩ := hA3.cu)
    | (go_at_call 77; with_reducible refine (hP _ w3 hA3).mono ?_; rintro r w4 ⟨rfl, hA4, hO4⟩; have R4 := hO4.row R3 zm_ne (Nat.ne_of_lt (Nat.lt_trans z1 z2)); have S4 := hO4.row S3 (i1v_ne _) (Nat.ne_of_lt z2); have B04 : Below w.heap.size w w4 := B03.trans (hO4.bel (Nat.le_of_lt (Nat.lt_trans z1 z2))); have z04 := Nat.lt_of_lt_of_le (Nat.lt_trans z1 z2) (Nat.le_trans hB3.size hO4.size); have z14 := Nat.lt_of_lt_of_le z2 (Nat.le_trans hB3.size hO4.size); clear c0 c1)
    | (go_at_call 53; with_reducible refine (hK _ w4 hA4).mono ?_; rintro r w5 ⟨L, rfl, hL1, hL2, hF5, hA5, hO5, hW5⟩; have nL : L ≠ [] := (fun e => absurd (congrArg List.length e) (by rw [hL1]; decide)); have R5 := hO5.row R4 zm_ne (Nat.ne_of_lt (Nat.lt_trans z1 z2)); have S5 := hO5.row S4 (i1v_ne _) (Nat.ne_of_lt z2); have B05 : Below w.heap.size w w5 := B04.trans (hO5.bel (Nat.le_of_lt (Nat.lt_trans z1 z2))))
    | (with_reducible refine wpList_storeH (w := w5) (by with_unfolding_all rfl) 41 (.tmp 6) (.tmp 25) (by with_unfolding_all rfl) w.heap.size zm L (by with_unfolding_all rfl) (by with_unfolding_all rfl) R5 3 Tryd.sT_implManifest rfl hL1 (List.all_eq_true.1 hL2) ?_; intro w6 hA6 hB6 hF6 hS6; have S6 := (Only.set hB6 hF6 hS6).row S5 (i1v_ne _) (Nat.ne_of_gt z1); have C6 := (Only.set hB6 hF6 hS6).row hA5 (cuv_ne _ _) (Nat.ne_of_gt (Nat.lt_trans z1 z2)); have B06 : Below w.heap.size w w6 := B05.trans (hB6 _ (Nat.le_refl _)); have OW6 := Kee.step (Kee.of hW5) (Only.set hB6 hF6 hS6) z04; have Z6 := (Only.set hB6 hF6 hS6).size))
  have hA7 := hA6.drew
  have OW7 := Kee.drew OW6
  have Z7 : w5.heap.size ≤ w6.drew.heap.size := Z6
  clear OW6 Z6
  have S7 := S6.drew
  have C7 := C6.drew
  have B07 := B06.drew
  refine wp_region_held_drew (S := fun w' => w'.cell? ⟨w2.heap.size, 0, none⟩ = some (.string t) ∧ w'.cell? ⟨w2.heap.size, 1, none⟩ = some (.int .i64 (b : Int))) (by kernel_rfl) C7.cu (fun hHeld => ?_)
  refine wpAnyH_take (i := 0) (oi := ⟨_, _, _, _, _, _⟩) (v := .pointer (some ⟨w2.heap.size, 0, none⟩)) rfl (by kernel_rfl) (by kernel_rfl) (by kernel_rfl) (fun _ _ _ h => rw_putm (k := 26) (by decide) (by decide) h) (Or.inl ⟨wanted_free rfl, fun w' hSw => ?_⟩) hHeld ?_
  · obtain ⟨s0, s1⟩ := hSw
    go_simp
  try simp only [Act.put, List.setIfInBounds_toArray, List.set_cons_zero, List.set_cons_succ]
  refine wpAnyH_take (i := 1) (oi := ⟨_, _, _, _, _, _⟩) (v := .pointer (some ⟨w2.heap.size, 0, none⟩)) rfl (by kernel_rfl) (by kernel_rfl) (by kernel_rfl) (fun _ _ _ h => rw_putm (k := 27) (by decide) (by decide) h) (Or.inl ⟨wanted_free rfl, fun w' hSw => ?_⟩) hHeld ?_
  · obtain ⟨s0, s1⟩ := hSw
    go_simp
  try simp only [Act.put, List.setIfInBounds_toArray, List.set_cons_zero, List.set_cons_succ]
  refine wpAnyH_take (i := 2) (oi := ⟨_, _, _, _, _, _⟩) (v := .pointer (some ⟨w2.heap.size, 0, none⟩)) rfl (by kernel_rfl) (by kernel_rfl) (by kernel_rfl) (fun _ _ _ h => rw_putm (k := 28) (by decide) (by decide) h) (Or.inl ⟨wanted_free rfl, fun w' hSw => ?_⟩) hHeld ?_
  · obtain ⟨s0, s1⟩ := hSw
    go_simp
  try simp only [Act.put, List.setIfInBounds_toArray, List.set_cons_zero, List.set_cons_succ]
  refine wpAnyH_take (i := 3) (oi := ⟨_, _, _, _, _, _⟩) (v := .pointer (some ⟨w2.heap.size, 0, none⟩)) rfl (by kernel_rfl) (by kernel_rfl) (by kernel_rfl) (fun _ _ _ h => rw_putm (k := 29) (by decide) (by decide) h) (Or.inl ⟨wanted_free rfl, fun w' hSw => ?_⟩) hHeld ?_
  · obtain ⟨s0, s1⟩ := hSw
    go_simp
  try simp only [Act.put, List.setIfInBounds_toArray, List.set_cons_zero, List.set_cons_succ]
  refine wpAnyH_take (i := 4) (oi := ⟨_, _, _, _, _, _⟩) (v := .pointer (some ⟨w2.heap.size, 0, none⟩)) rfl (by kernel_rfl) (by kernel_rfl) (by kernel_rfl) (fun _ _ _ h => rw_putm (k := 30) (by decide) (by decide) h) (Or.inl ⟨wanted_free rfl, fun w' hSw => ?_⟩) hHeld ?_
  · obtain ⟨s0, s1⟩ := hSw
    go_simp
  try simp only [Act.put, List.setIfInBounds_toArray, List.set_cons_zero, List.set_cons_succ]
  refine wpAnyH_take (i := 5) (oi := ⟨_, _, _, _, _, _⟩) (v := .pointer (some ⟨w2.heap.size, 0, none⟩)) rfl (by kernel_rfl) (by kernel_rfl) (by kernel_rfl) (fun _ _ _ h => rw_putm (k := 31) (by decide) (by decide) h) (Or.inl ⟨wanted_free rfl, fun w' hSw => ?_⟩) hHeld ?_
  · obtain ⟨s0, s1⟩ := hSw
    go_simp
  try simp only [Act.put, List.setIfInBounds_toArray, List.set_cons_zero, List.set_cons_succ]
  refine wpAnyH_take (i := 6) (oi := ⟨_, _, _, _, _, _⟩) (v := .pointer (some ⟨w2.heap.size, 1, none⟩)) rfl (by kernel_rfl) (by kernel_rfl) (by kernel_rfl) (fun _ _ _ h => rw_putm (k := 32) (by decide) (by decide) h) (Or.inl ⟨wanted_free rfl, fun w' hSw => ?_⟩) hHeld ?_
  · obtain ⟨s0, s1⟩ := hSw
    go_simp
  try simp only [Act.put, List.setIfInBounds_toArray, List.set_cons_zero, List.set_cons_succ]
  refine wpAnyH_take (i := 7) (oi := ⟨_, _, _, _, _, _⟩) (v := .int .i64 (b : Int)) rfl (by kernel_rfl) (by kernel_rfl) (by kernel_rfl) (fun _ _ _ h => rw_putm (k := 33) (by decide) (by decide) h) (Or.inl ⟨wanted_free rfl, fun w' hSw => ?_⟩) hHeld ?_
  · obtain ⟨s0, s1⟩ := hSw
    go_simp
  try simp only [Act.put, List.setIfInBounds_toArray, List.set_cons_zero, List.set_cons_succ]
  refine wpAnyH_take (i := 8) (oi := ⟨_, _, _, _, _, _⟩) (v := .pointer (some ⟨w2.heap.size, 0, none⟩)) rfl (by kernel_rfl) (by kernel_rfl) (by kernel_rfl) (fun _ _ _ h => rw_putm (k := 34) (by decide) (by decide) h) (Or.inl ⟨wanted_free rfl, fun w' hSw => ?_⟩) hHeld ?_
  · obtain ⟨s0, s1⟩ := hSw
    go_simp
  try simp only [Act.put, List.setIfInBounds_toArray, List.set_cons_zero, List.set_cons_succ]
  refine wpAnyH_take (i := 9) (oi := ⟨_, _, _, _, _, _⟩) (v := .pointer (some ⟨w2.heap.size, 0, none⟩)) rfl (by kernel_rfl) (by kernel_rfl) (by kernel_rfl) (fun _ _ _ h => rw_putm (k := 35) (by decide) (by decide) h) (Or.inl ⟨wanted_free rfl, fun w' hSw => ?_⟩) hHeld ?_
  · obtain ⟨s0, s1⟩ := hSw
    go_simp
  try simp only [Act.put, List.setIfInBounds_toArray, List.set_cons_zero, List.set_cons_succ]
  refine wpAnyH_take (i := 10) (oi := ⟨_, _, _, _, _, _⟩) (v := .pointer (some ⟨w2.heap.size, 0, none⟩)) rfl (by kernel_rfl) (by kernel_rfl) (by kernel_rfl) (fun _ _ _ h => rw_putm (k := 36) (by decide) (by decide) h) (Or.inl ⟨wanted_free rfl, fun w' hSw => ?_⟩) hHeld ?_
  · obtain ⟨s0, s1⟩ := hSw
    go_simp
  try simp only [Act.put, List.setIfInBounds_toArray, List.set_cons_zero, List.set_cons_succ]
  refine wpAnyH_take (i := 11) (oi := ⟨_, _, _, _, _, _⟩) (v := .pointer (some ⟨w2.heap.size, 0, none⟩)) rfl (by kernel_rfl) (by kernel_rfl) (by kernel_rfl) (fun _ _ _ h => rw_putm (k := 37) (by decide) (by decide) h) (Or.inl ⟨wanted_free rfl, fun w' hSw => ?_⟩) hHeld ?_
  · obtain ⟨s0, s1⟩ := hSw
    go_simp
  try simp only [Act.put, List.setIfInBounds_toArray, List.set_cons_zero, List.set_cons_succ]
  refine wpAnyH_take (i := 12) (oi := ⟨_, _, _, _, _, _⟩) (v := .string t) rfl (by kernel_rfl) (by kernel_rfl) (by kernel_rfl) (fun _ _ _ h => rw_putm (k := 38) (by decide) (by decide) h) (Or.inl ⟨wanted_free rfl, fun w' hSw => ?_⟩) hHeld ?_
  · obtain ⟨s0, s1⟩ := hSw
    go_simp
  try simp only [Act.put, List.setIfInBounds_toArray, List.set_cons_zero, List.set_cons_succ]
  refine wpAnyH_take (i := 13) (oi := ⟨_, _, _, _, _, _⟩) (v := .int .i64 (t.size : Int)) rfl (by kernel_rfl) (by kernel_rfl) (by kernel_rfl) (fun _ _ _ h => rw_putm (k := 39) (by decide) (by decide) h) (Or.inl ⟨wanted_free rfl, fun w' hSw => ?_⟩) hHeld ?_
  · obtain ⟨s0, s1⟩ := hSw
    go_simp
  try simp only [Act.put, List.setIfInBounds_toArray, List.set_cons_zero, List.set_cons_succ]
  refine wpAnyH_take (i := 14) (oi := ⟨_, _, _, _, _, _⟩) (v := .bool false) rfl (by kernel_rfl) (by kernel_rfl) (by kernel_rfl) (fun _ _ _ h => rw_putm (k := 40) (by decide) (by decide) h) (Or.inl ⟨wanted_free rfl, fun w' hSw => ?_⟩) hHeld ?_
  · obtain ⟨s0, s1⟩ := hSw
    go_simp
  try simp only [Act.put, List.setIfInBounds_toArray, List.set_cons_zero, List.set_cons_succ]
  generalize w6.drew = w7 at *
  refine wpAnyH_ready (rs := [15]) (by kernel_rfl) (by simp) (AllReadyH.cons (o := ⟨_, _, _, _, _, _⟩) rfl (fun K hK => ?_) AllReadyH.nil)
  rewrite [if_pos (wanted_free rfl)]
  go_simp
  refine (mustNo _ w7).mono ?_
  rintro r w' ⟨rfl, rfl⟩
  refine leaves_cons (f := 76) (args := #[.pointer (some ⟨w.heap.size, 0, none⟩), .pointer (some ⟨w1.heap.size, 0, none⟩)]) (by simp) (by simp [go_sem]) ?_
  refine (catchPm w.heap.size w1.heap.size L hL1 0 w7 (Nat.ne_of_lt z1) hA7 S7).mono ?_
  rintro e u' w9 ⟨rfl, rfl, q6, q7, qB⟩
  exact ⟨_, results_V2 rfl _ w.heap.size zm rfl q6 Tryd.uT_implManifest 3 Tryd.sT_implManifest rfl w1.heap.size 3 rfl q7 Tryd.underlying2, rfl, B07.trans (qB _ (Nat.le_refl _) (Nat.le_of_lt z1))⟩
set_option maxRecDepth 100000 in
set_option maxHeartbeats 1000000 in
theorem rmYes (t m : ByteArray) (w : World) (hs : t.size ≤ 20000) (hP : ∀ g w0, RowV w0 g (cuv t 0) → Calls Tryd.prog 77 #[.pointer (some ⟨g, 0, none⟩), .string m] w0 fun e w' => e = .returned (.tuple #[]) ∧ RowV w' g (cuv t 1) ∧ Only g w0 w') (Q : List Value → World → Prop) (F : List Value → Nat → Nat → Prop) (hM : ∀ L a b c d, F L a b → c ≤ a → b ≤ d → F L c d) (b : Nat) (hK : ∀ g w0, RowV w0 g (cuv t 1) → Calls Tryd.prog 53 #[.pointer (some ⟨g, 0, none⟩)] w0 fun r w' => ∃ L, r = .returned (.agg L.toArray) ∧ L.length = 3 ∧ L.all Value.oneCell' = true ∧ F L w0.heap.size w'.heap.size ∧ RowV w' g (cuv t b) ∧ Only g w0 w' ∧ Made w0 w' (Q L)) (hb : b = t.size) :
    Calls Tryd.prog 52 #[.string t, .string m, .func (.func 53) #[] #[]] w fun r w' => ∃ L, r = .returned (.tuple #[.agg L.toArray, .int .i64 0]) ∧ L.length = 3 ∧ L.all Value.oneCell' = true ∧ F L w.heap.size w'.heap.size ∧ Made w w' (Q L) ∧ Below w.heap.size w w' := by
  have e1 : ((b : Int) == (t.size : Int)) = true := by rw [hb]; simp
  have e2 : (b == t.size) = true := by rw [hb]; simp
  clear hb
  have d1 : decide ((20000 : Int) < (t.size : Int)) = false := decide_eq_false (by omega)
  have hmf : ∀ (fn : Fn) (first cap : Array Value) (w : World), (Instr.makeFunc fn first cap).run Tryd.prog w = .ok (.func fn first cap) w := fun _ _ _ _ => rfl
  go_enter_defers Tryd.func52, Tryd.ntmps52
  go_wp2_with (first
    | (with_reducible refine wpList_allocV (w := w) (by with_unfolding_all rfl) 41 (by with_unfolding_all rfl) zm Tryd.zT_implManifest ?_; intro w1 hA1 hB1 hS1; have z1 : w.heap.size < w1.heap.size := (by omega); clear hS1)
    | (with_reducible refine wpList_alloc1 (w := w1) (by with_unfolding_all rfl) 2 (by with_unfolding_all rfl) 0 Tryd.zeroI ?_; intro w2 hA2 hB2 hS2; have z2 : w1.heap.size < w2.heap.size := (by omega); clear hS2; have R2 := hA1.below hB2 z1; have B02 : Below w.heap.size w w2 := hB1.trans (hB2.mono (Nat.le_of_lt z1)))
    | (with_reducible refine wpList_boxV (w := w2) (by with_unfolding_all rfl) 122 (.tmp 16) (by with_unfolding_all rfl) (cuv t 0) (by with_unfolding_all rfl) ?_; intro w3 hA3 hB3 hS3; clear hS3; have R3 := R2.below hB3 (Nat.lt_trans z1 z2); have S3 := hA2.below hB3 z2; have B03 : Below w.heap.size w w3 := B02.trans (hB3.mono (Nat.le_of_lt (Nat.lt_trans z1 z2))); obtain ⟨c0, c1⟩ := hA3.cu)
    | (go_at_call 77; with_reducible refine (hP _ w3 hA3).mono ?_; rintro r w4 ⟨rfl, hA4, hO4⟩; have R4 := hO4.row R3 zm_ne (Nat.ne_of_lt (Nat.lt_trans z1 z2)); have S4 := hO4.row S3 (i1v_ne _) (Nat.ne_of_lt z2); have B04 : Below w.heap.size w w4 := B03.trans (hO4.bel (Nat.le_of_lt (Nat.lt_trans z1 z2))); have z04 := Nat.lt_of_lt_of_le (Nat.lt_trans z1 z2) (Nat.le_trans hB3.size hO4.size); have z14 := Nat.lt_of_lt_of_le z2 (Nat.le_trans hB3.size hO4.size); clear c0 c1)
    | (go_at_call 53; with_reducible refine (hK _ w4 hA4).mono ?_; rintro r w5 ⟨L, rfl, hL1, hL2, hF5, hA5, hO5, hW5⟩; have nL : L ≠ [] := (fun e => absurd (congrArg List.length e) (by rw [hL1]; decide)); have R5 := hO5.row R4 zm_ne (Nat.ne_of_lt (Nat.lt_trans z1 z2)); have S5 := hO5.row S4 (i1v_ne _) (Nat.ne_of_lt z2); have B05 : Below w.heap.size w w5 := B04.trans (hO5.bel (Nat.le_of_lt (Nat.lt_trans z1 z2))))
    | (with_reducible refine wpList_storeH (w := w5) (by with_unfolding_all rfl) 41 (.tmp 6) (.tmp 25) (by with_unfolding_all rfl) w.heap.size zm L (by with_unfolding_all rfl) (by with_unfolding_all rfl) R5 3 Tryd.sT_implManifest rfl hL1 (List.all_eq_true.1 hL2) ?_; intro w6 hA6 hB6 hF6 hS6; have S6 := (Only.set hB6 hF6 hS6).row S5 (i1v_ne _) (Nat.ne_of_gt z1); have C6 := (Only.set hB6 hF6 hS6).row hA5 (cuv_ne _ _) (Nat.ne_of_gt (Nat.lt_trans z1 z2)); have B06 : Below w.heap.size w w6 := B05.trans (hB6 _ (Nat.le_refl _)); have OW6 := Kee.step (Kee.of hW5) (Only.set hB6 hF6 hS6) z04; have Z6 := (Only.set hB6 hF6 hS6).size))
  have hA7 := hA6.drew
  have OW7 := Kee.drew OW6
  have Z7 : w5.heap.size ≤ w6.drew.heap.size := Z6
  clear OW6 Z6
  have S7 := S6.drew
  have C7 := C6.drew
  have B07 := B06.drew
  refine wp_region_held_drew (S := fun w' => w'.cell? ⟨w2.heap.size, 0, none⟩ = some (.string t) ∧ w'.cell? ⟨w2.heap.size, 1, none⟩ = some (.int .i64 (b : Int))) (by kernel_rfl) C7.cu (fun hHeld => ?_)
  refine wpAnyH_take (i := 0) (oi := ⟨_, _, _, _, _, _⟩) (v := .pointer (some ⟨w2.heap.size, 0, none⟩)) rfl (by kernel_rfl) (by kernel_rfl) (by kernel_rfl) (fun _ _ _ h => rw_putm (k := 26) (by decide) (by decide) h) (Or.inl ⟨wanted_free rfl, fun w' hSw => ?_⟩) hHeld ?_
  · obtain ⟨s0, s1⟩ := hSw
    go_simp
  try simp only [Act.put, List.setIfInBounds_toArray, List.set_cons_zero, List.set_cons_succ]
  refine wpAnyH_take (i := 1) (oi := ⟨_, _, _, _, _, _⟩) (v := .pointer (some ⟨w2.heap.size, 0, none⟩)) rfl (by kernel_rfl) (by kernel_rfl) (by kernel_rfl) (fun _ _ _ h => rw_putm (k := 27) (by decide) (by decide) h) (Or.inl ⟨wanted_free rfl, fun w' hSw => ?_⟩) hHeld ?_
  · obtain ⟨s0, s1⟩ := hSw
    go_simp
  try simp only [Act.put, List.setIfInBounds_toArray, List.set_cons_zero, List.set_cons_succ]
  refine wpAnyH_take (i := 2) (oi := ⟨_, _, _, _, _, _⟩) (v := .pointer (some ⟨w2.heap.size, 0, none⟩)) rfl (by kernel_rfl) (by kernel_rfl) (by kernel_rfl) (fun _ _ _ h => rw_putm (k := 28) (by decide) (by decide) h) (Or.inl ⟨wanted_free rfl, fun w' hSw => ?_⟩) hHeld ?_
  · obtain ⟨s0, s1⟩ := hSw
    go_simp
  try simp only [Act.put, List.setIfInBounds_toArray, List.set_cons_zero, List.set_cons_succ]
  refine wpAnyH_take (i := 3) (oi := ⟨_, _, _, _, _, _⟩) (v := .pointer (some ⟨w2.heap.size, 0, none⟩)) rfl (by kernel_rfl) (by kernel_rfl) (by kernel_rfl) (fun _ _ _ h => rw_putm (k := 29) (by decide) (by decide) h) (Or.inl ⟨wanted_free rfl, fun w' hSw => ?_⟩) hHeld ?_
  · obtain ⟨s0, s1⟩ := hSw
    go_simp
  try simp only [Act.put, List.setIfInBounds_toArray, List.set_cons_zero, List.set_cons_succ]
  refine wpAnyH_take (i := 4) (oi := ⟨_, _, _, _, _, _⟩) (v := .pointer (some ⟨w2.heap.size, 0, none⟩)) rfl (by kernel_rfl) (by kernel_rfl) (by kernel_rfl) (fun _ _ _ h => rw_putm (k := 30) (by decide) (by decide) h) (Or.inl ⟨wanted_free rfl, fun w' hSw => ?_⟩) hHeld ?_
  · obtain ⟨s0, s1⟩ := hSw
    go_simp
  try simp only [Act.put, List.setIfInBounds_toArray, List.set_cons_zero, List.set_cons_succ]
  refine wpAnyH_take (i := 5) (oi := ⟨_, _, _, _, _, _⟩) (v := .pointer (some ⟨w2.heap.size, 0, none⟩)) rfl (by kernel_rfl) (by kernel_rfl) (by kernel_rfl) (fun _ _ _ h => rw_putm (k := 31) (by decide) (by decide) h) (Or.inl ⟨wanted_free rfl, fun w' hSw => ?_⟩) hHeld ?_
  · obtain ⟨s0, s1⟩ := hSw
    go_simp
  try simp only [Act.put, List.setIfInBounds_toArray, List.set_cons_zero, List.set_cons_succ]
  refine wpAnyH_take (i := 6) (oi := ⟨_, _, _, _, _, _⟩) (v := .pointer (some ⟨w2.heap.size, 1, none⟩)) rfl (by kernel_rfl) (by kernel_rfl) (by kernel_rfl) (fun _ _ _ h => rw_putm (k := 32) (by decide) (by decide) h) (Or.inl ⟨wanted_free rfl, fun w' hSw => ?_⟩) hHeld ?_
  · obtain ⟨s0, s1⟩ := hSw
    go_simp
  try simp only [Act.put, List.setIfInBounds_toArray, List.set_cons_zero, List.set_cons_succ]
  refine wpAnyH_take (i := 7) (oi := ⟨_, _, _, _, _, _⟩) (v := .int .i64 (b : Int)) rfl (by kernel_rfl) (by kernel_rfl) (by kernel_rfl) (fun _ _ _ h => rw_putm (k := 33) (by decide) (by decide) h) (Or.inl ⟨wanted_free rfl, fun w' hSw => ?_⟩) hHeld ?_
  · obtain ⟨s0, s1⟩ := hSw
    go_simp
  try simp only [Act.put, List.setIfInBounds_toArray, List.set_cons_zero, List.set_cons_succ]
  refine wpAnyH_take (i := 8) (oi := ⟨_, _, _, _, _, _⟩) (v := .pointer (some ⟨w2.heap.size, 0, none⟩)) rfl (by kernel_rfl) (by kernel_rfl) (by kernel_rfl) (fun _ _ _ h => rw_putm (k := 34) (by decide) (by decide) h) (Or.inl ⟨wanted_free rfl, fun w' hSw => ?_⟩) hHeld ?_
  · obtain ⟨s0, s1⟩ := hSw
    go_simp
  try simp only [Act.put, List.setIfInBounds_toArray, List.set_cons_zero, List.set_cons_succ]
  refine wpAnyH_take (i := 9) (oi := ⟨_, _, _, _, _, _⟩) (v := .pointer (some ⟨w2.heap.size, 0, none⟩)) rfl (by kernel_rfl) (by kernel_rfl) (by kernel_rfl) (fun _ _ _ h => rw_putm (k := 35) (by decide) (by decide) h) (Or.inl ⟨wanted_free rfl, fun w' hSw => ?_⟩) hHeld ?_
  · obtain ⟨s0, s1⟩ := hSw
    go_simp
  try simp only [Act.put, List.setIfInBounds_toArray, List.set_cons_zero, List.set_cons_succ]
  refine wpAnyH_take (i := 10) (oi := ⟨_, _, _, _, _, _⟩) (v := .pointer (some ⟨w2.heap.size, 0, none⟩)) rfl (by kernel_rfl) (by kernel_rfl) (by kernel_rfl) (fun _ _ _ h => rw_putm (k := 36) (by decide) (by decide) h) (Or.inl ⟨wanted_free rfl, fun w' hSw => ?_⟩) hHeld ?_
  · obtain ⟨s0, s1⟩ := hSw
    go_simp
  try simp only [Act.put, List.setIfInBounds_toArray, List.set_cons_zero, List.set_cons_succ]
  refine wpAnyH_take (i := 11) (oi := ⟨_, _, _, _, _, _⟩) (v := .pointer (some ⟨w2.heap.size, 0, none⟩)) rfl (by kernel_rfl) (by kernel_rfl) (by kernel_rfl) (fun _ _ _ h => rw_putm (k := 37) (by decide) (by decide) h) (Or.inl ⟨wanted_free rfl, fun w' hSw => ?_⟩) hHeld ?_
  · obtain ⟨s0, s1⟩ := hSw
    go_simp
  try simp only [Act.put, List.setIfInBounds_toArray, List.set_cons_zero, List.set_cons_succ]
  refine wpAnyH_take (i := 12) (oi := ⟨_, _, _, _, _, _⟩) (v := .string t) rfl (by kernel_rfl) (by kernel_rfl) (by kernel_rfl) (fun _ _ _ h => rw_putm (k := 38) (by decide) (by decide) h) (Or.inl ⟨wanted_free rfl, fun w' hSw => ?_⟩) hHeld ?_
  · obtain ⟨s0, s1⟩ := hSw
    go_simp
  try simp only [Act.put, List.setIfInBounds_toArray, List.set_cons_zero, List.set_cons_succ]
  refine wpAnyH_take (i := 13) (oi := ⟨_, _, _, _, _, _⟩) (v := .int .i64 (t.size : Int)) rfl (by kernel_rfl) (by kernel_rfl) (by kernel_rfl) (fun _ _ _ h => rw_putm (k := 39) (by decide) (by decide) h) (Or.inl ⟨wanted_free rfl, fun w' hSw => ?_⟩) hHeld ?_
  · obtain ⟨s0, s1⟩ := hSw
    go_simp
  try simp only [Act.put, List.setIfInBounds_toArray, List.set_cons_zero, List.set_cons_succ]
  refine wpAnyH_take (i := 14) (oi := ⟨_, _, _, _, _, _⟩) (v := .bool true) rfl (by kernel_rfl) (by kernel_rfl) (by kernel_rfl) (fun _ _ _ h => rw_putm (k := 40) (by decide) (by decide) h) (Or.inl ⟨wanted_free rfl, fun w' hSw => ?_⟩) hHeld ?_
  · obtain ⟨s0, s1⟩ := hSw
    go_simp
  try simp only [Act.put, List.setIfInBounds_toArray, List.set_cons_zero, List.set_cons_succ]
  generalize w6.drew = w7 at *
  refine wpAnyH_ready (rs := [15]) (by kernel_rfl) (by simp) (AllReadyH.cons (o := ⟨_, _, _, _, _, _⟩) rfl (fun K hK => ?_) AllReadyH.nil)
  rewrite [if_pos (wanted_free rfl)]
  go_simp
  refine (mustYes _ w7).mono ?_
  rintro r w' ⟨rfl, rfl⟩
  go_wp2_with fail
  refine hK.out _ _ C7.cu (fun _ => ?_)
  clear hK K
  try simp only [Act.put, List.setIfInBounds_toArray, List.set_cons_zero, List.set_cons_succ]
  refine wpAnyH_done (by kernel_rfl) ?_ _
  clear hHeld
  go_wp2_with (first
    | (with_reducible refine wpList_loadV (w := w7) (by with_unfolding_all rfl) 41 (.tmp 6) (by with_unfolding_all rfl) w.heap.size L (by with_unfolding_all rfl) hA7 Tryd.uT_implManifest 3 Tryd.sT_implManifest hL1 ?_)
    | (with_reducible refine wpList_storeH (w := w7) (by with_unfolding_all rfl) 41 (.tmp 6) (.tmp 42) (by with_unfolding_all rfl) w.heap.size L L (by with_unfolding_all rfl) (by with_unfolding_all rfl) hA7 3 Tryd.sT_implManifest hL1 hL1 (List.all_eq_true.1 hL2) ?_; intro w8 hA8 hB8 hF8 hS8; have Q8 := (Only.set hB8 hF8 hS8).row S7 (i1v_ne _) (Nat.ne_of_gt z1); have OW8 := Kee.step OW7 (Only.set hB8 hF8 hS8) z04; have Z8 := Nat.le_trans Z7 (Only.set hB8 hF8 hS8).size)
    | (with_reducible refine wpList_cellH (w := w8) (by with_unfolding_all rfl) 2 (.tmp 7) (.const (.int .i64 0)) (by with_unfolding_all rfl) w1.heap.size 0 (i1v 0) (i1v 0) (.int .i64 0) (by with_unfolding_all rfl) (by with_unfolding_all rfl) rfl Tryd.siz1I Q8 (by simp [i1v]) (by with_unfolding_all rfl) ?_; intro w9 hA9 hB9 hF9 hS9; have Q9 := (Only.set hB9 hF9 hS9).row hA8 nL (Nat.ne_of_lt z1); have B9 : Below w.heap.size w w9 := (B07.trans (hB8 _ (Nat.le_refl _))).trans (hB9 _ (Nat.le_of_lt z1)); have OW9 := Kee.step OW8 (Only.set hB9 hF9 hS9) z14; have Z9 := Nat.le_trans Z8 (Only.set hB9 hF9 hS9).size))
  refine leaves_cons (f := 76) (args := #[.pointer (some ⟨w.heap.size, 0, none⟩), .pointer (some ⟨w1.heap.size, 0, none⟩)]) (by simp) (by simp [go_sem]) ?_
  refine (catchRm _ _ w9).mono ?_
  rintro r u' w' ⟨rfl, rfl, rfl⟩
  exact ⟨_, results_V2 rfl _ w.heap.size L rfl Q9 Tryd.uT_implManifest 3 Tryd.sT_implManifest hL1 w1.heap.size 0 rfl hA9 Tryd.underlying2, L, rfl, hL1, hL2, hM L _ _ _ _ hF5 (Nat.le_of_lt z04) Z9, Kee.made OW9 (Nat.le_of_lt z04) Z9, B9⟩
end Go.Proofs.YtchfpiadfmnphaaDoor
namespace Go.Proofs.YtchfpiadfmnphaaDoor
open Go.RowKit
set_option linter.unusedVariables false

def mkLayAt (k0 j : Nat) : Value := if j % 2 = 0 then .string (mkT (k0 + j)) else .int .i64 ((k0 + j : Nat) : Int)
def mkLayC (k0 m : Nat) : List Value := (List.range m).map (mkLayAt k0)
theorem mkLayC_len (k0 m : Nat) : (mkLayC k0 m).length = m := by unfold mkLayC; rw [List.length_map, List.length_range]
theorem mkLayC_set (k0 : Nat) (L : List Value) {j : Nat} (h : j < L.length) : mkLayC k0 (j + 1) ++ L.drop (j + 1) = (mkLayC k0 j ++ L.drop j).set j (mkLayAt k0 j) := by
  have e : mkLayC k0 (j + 1) = mkLayC k0 j ++ [mkLayAt k0 j] := by unfold mkLayC; rw [List.range_succ, List.map_append]; rfl
  rw [e, List.set_append, if_neg (by rw [mkLayC_len]; omega), mkLayC_len, Nat.sub_self, List.append_assoc]
  congr 1
  rw [List.drop_eq_getElem_cons h]
  rfl
theorem mkLayC_get {k0 m j : Nat} (h : j < m) : (mkLayC k0 m)[j]? = some (mkLayAt k0 j) := by unfold mkLayC; simp [h]
theorem mkLayC_ne {k0 m : Nat} {L : List Value} (h : L ≠ []) (hm : m ≤ L.length) : mkLayC k0 m ++ L.drop m ≠ [] := by
  intro e
  have := congrArg List.length e
  rw [List.length_append, mkLayC_len, List.length_drop] at this
  cases L with
  | nil => exact h rfl
  | cons x l => simp at this; omega
theorem mkLayC_len2 {k0 m : Nat} {L : List Value} (hm : m ≤ L.length) : (mkLayC k0 m ++ L.drop m).length = L.length := by rw [List.length_append, mkLayC_len, List.length_drop]; omega
theorem mkLayC_k (k0 j : Nat) (h : j % 2 = 0) : mkLayAt k0 j = .string (mkT (k0 + j)) ∧ mkLayAt k0 (j + 1) = .int .i64 ((k0 + (j + 1) : Nat) : Int) := by
  unfold mkLayAt
  exact ⟨if_pos (by omega), (if_neg (by omega)).trans (rfl)⟩
set_option maxRecDepth 100000 in
set_option maxHeartbeats 2000000 in
theorem markLayS_some (g c n k0 : Nat) (L : List Value) (w : World) (hL : L.length = 2 * n) (hn0 : 0 < n) (h : RowV w g L) (hn : n ≤ 1100000) (h0 : 1 ≤ k0) (h1 : k0 ≤ 900000000) :
    Calls Tryd.prog 56 #[.slice (some ⟨g, 0, none⟩) n c, .int .i64 (k0 : Int)] w fun e w' => e = .returned (.int .i64 ((k0 + 2 * n : Nat) : Int)) ∧ RowV w' g (mkLayC k0 (2 * n)) ∧ But g w w' := by
  have hLn : L ≠ [] := by intro e; rw [e] at hL; simp at hL; omega
  have HM : Hid (MkV g (mkLayC k0 0 ++ L.drop 0) w w) := ⟨h, But.refl _ _⟩
  have HL : Hid (L.length = 2 * n) := hL
  clear h hL
  go_enter Tryd.func56, Tryd.ntmps56
  go_wp2_with fail
  go_loopw [1, 5] (fun q i wr => ∃ (k z : Nat), i = .int .i64 (k : Int) ∧ q = .int .i64 (z : Int) ∧ Hid (z = k0 + k * 2) ∧ k ≤ n ∧ Hid (MkV g (mkLayC k0 (k * 2) ++ L.drop (k * 2)) w wr)) (fun _ i _ => n - (intOf i).toNat)
  case atStart => exact ⟨0, k0, rfl, rfl, by show _ = _; omega, Nat.zero_le _, HM⟩
  case round =>
    clear HM
    obtain ⟨k, z, rfl, rfl, HZ, hk, HMk⟩ := hrel
    by_cases hlt : k < n
    case neg =>
      obtain rfl : k = n := by omega
      have e3 : mkLayC k0 (k * 2) ++ L.drop (k * 2) = mkLayC k0 (2 * k) := by rw [Nat.mul_comm k 2, ← HL.out, List.drop_length, List.append_nil]
      rw [e3] at HMk
      go_wp2
      go_ret
      exact ⟨by rw [show k0 + 2 * k = z by have := HZ.out; omega]; rfl, HMk.out.row, HMk.out.but⟩
    have lk : (k : Int) < n := by omega
    have l0 : (0 : Int) ≤ k := by omega
    have zb : (z : Int) ≤ 910000000 := by have := HZ.out; omega
    obtain ⟨m0, m1⟩ := mkLayC_k k0 (k * 2) (by omega)
    obtain ⟨z1, hz1⟩ : ∃ y : Int, (z : Int) + 1 = y := ⟨_, rfl⟩
    obtain ⟨z2, hz2⟩ : ∃ y : Int, z1 + 1 = y := ⟨_, rfl⟩
    have Z1 : Hid (z1 = ((z + 1 : Nat) : Int)) := by show _ = _; omega
    have Z2 : Hid (z2 = ((z + 2 : Nat) : Int)) := by show _ = _; omega
    have b1 : 0 ≤ z1 ∧ z1 ≤ 910000001 := by omega
    have hT0 : ∀ w0, Calls Tryd.prog 50 #[.int .i64 (z : Int)] w0 fun e w' => e = .returned (.string (mkT z)) ∧ Below w0.heap.size w0 w' := fun w0 => mark_any z w0 (by have := HZ.out; omega) (by have := HZ.out; omega)
    have J0 : Hid (k * 2 < L.length) := by have := HL.out; show _ < _; omega
    have J1 : Hid (k * 2 + 1 < L.length) := by have := HL.out; show _ < _; omega
    have E0 := hidP (mkLayC_set k0 L J0.out)
    have E1 := hidP (mkLayC_set k0 L J1.out)
    rw [m0, ← HZ.out] at E0
    rw [m1, show k0 + (k * 2 + 1) = z + 1 by have := HZ.out; omega, ← Z1.out] at E1
    have N0 := hidP (mkLayC_ne (k0 := k0) hLn (Nat.le_of_lt J0.out))
    have L0 := hidP (Nat.lt_of_lt_of_eq J0.out (mkLayC_len2 (k0 := k0) (Nat.le_of_lt J0.out)).symm)
    have L1 := hidP (Nat.lt_of_lt_of_eq J1.out (mkLayC_len2 (k0 := k0) (Nat.le_of_lt J1.out)).symm)
    generalize mkLayC k0 (k * 2) ++ L.drop (k * 2) = M0 at *
    generalize mkLayC k0 (k * 2 + 1) ++ L.drop (k * 2 + 1) = M1 at *
    generalize mkT z = X0 at *
    clear m0 m1
    go_wp2_with (first
      | (go_at_call 50; with_reducible refine (hT0 wr).mono ?_; rintro e wa ⟨rfl, hBa⟩; have HMa := MkV.call HMk N0.out hBa)
      | (refine wpList_cellH (w := wa) (by with_unfolding_all rfl) 9 (.tmp 17) (.tmp 15) (by with_unfolding_all rfl) g (k * 2) M0 M1 (.string X0) (by with_unfolding_all rfl) (by with_unfolding_all rfl) rfl Tryd.siz1T HMa.out.row L0.out E0.out ?_; intro wb hAb hBb hFb hSb; have HMb := MkV.put HMa hAb (Only.set hBb hFb hSb))
      | (refine wpList_cellH (w := wb) (by with_unfolding_all rfl) 2 (.tmp 24) (.tmp 22) (by with_unfolding_all rfl) g (k * 2 + 1) M1 (mkLayC k0 (k * 2 + 1 + 1) ++ L.drop (k * 2 + 1 + 1)) (.int .i64 z1) (by with_unfolding_all rfl) (by with_unfolding_all rfl) rfl Tryd.siz1I HMb.out.row L1.out E1.out ?_; intro wc hAc hBc hFc hSc; have HMc := MkV.put HMb hAc (Only.set hBc hFc hSc)))
    go_roundw
    case rel => exact ⟨k + 1, z + 2, by go_num, by rw [Z2.out], by have := HZ.out; show _ = _; omega, hlt, by rw [show (k + 1) * 2 = k * 2 + 1 + 1 by omega]; exact HMc⟩
    case measure => simp [intOf]; omega
structure LayH (w : World) (g o : Nat) (X0 : ByteArray) (y1 : Int) (w' : World) : Prop where
  c0 : w'.cell? ⟨g, o, none⟩ = some (.string X0)
  c1 : w'.cell? ⟨g, o + 1, none⟩ = some (.int .i64 y1)
  bel : Below w.heap.size w w'
theorem LayH.call {w w' w2 : World} {g o : Nat} {X0 : ByteArray} {y1 : Int} (h : Hid (LayH w g o X0 y1 w')) (hb : Below w'.heap.size w' w2) : Hid (LayH w g o X0 y1 w2) :=
  ⟨(hb.cell (p := ⟨g, o, none⟩) (cellLt h.out.c0)).trans h.out.c0, (hb.cell (p := ⟨g, o + 1, none⟩) (cellLt h.out.c1)).trans h.out.c1, h.out.bel.trans (hb.mono h.out.bel.size)⟩
theorem LayH.drew {w w' : World} {g o : Nat} {X0 : ByteArray} {y1 : Int} (h : Hid (LayH w g o X0 y1 w')) : Hid (LayH w g o X0 y1 w'.drew) := ⟨h.out.c0, h.out.c1, h.out.bel.drew⟩
theorem LayH.all {w w' : World} {g o : Nat} {X0 : ByteArray} {y1 : Int} (h : Hid (LayH w g o X0 y1 w')) : w'.cell? ⟨g, o, none⟩ = some (.string X0) ∧ w'.cell? ⟨g, o + 1, none⟩ = some (.int .i64 y1) ∧ Hid (LayH w g o X0 y1 w') := ⟨h.out.c0, h.out.c1, h⟩
set_option maxRecDepth 100000 in
set_option maxHeartbeats 2000000 in
theorem heldLayS_any (a : Option Addr) (c n k0 : Nat) (w : World) (h : VR w a (mkLayC k0 (2 * n))) (hn : n ≤ 1100000) (h0 : 1 ≤ k0) (h1 : k0 ≤ 900000000) :
    Calls Tryd.prog 58 #[.slice a n c, .int .i64 (k0 : Int)] w fun e w' => e = .returned (.int .i64 ((k0 + 2 * n : Nat) : Int)) ∧ Below w.heap.size w w' := by
  have HV : Hid (VR w a (mkLayC k0 (2 * n))) := h
  clear h
  go_enter Tryd.func58, Tryd.ntmps58
  go_wp2_with fail
  go_loopw [1, 5] (fun q i wr => ∃ (k z : Nat), i = .int .i64 (k : Int) ∧ q = .int .i64 (z : Int) ∧ Hid (z = k0 + k * 2) ∧ k ≤ n ∧ Hid (Below w.heap.size w wr)) (fun _ i _ => n - (intOf i).toNat)
  case atStart => exact ⟨0, k0, rfl, rfl, by show _ = _; omega, Nat.zero_le _, Below.refl _ _⟩
  case round =>
    obtain ⟨k, z, rfl, rfl, HZ, hk, HB⟩ := hrel
    by_cases hlt : k < n
    case neg =>
      obtain rfl : k = n := by omega
      go_wp2
      go_ret
      exact ⟨by rw [show k0 + 2 * k = z by have := HZ.out; omega]; rfl, HB.out⟩
    have lk : (k : Int) < n := by omega
    have l0 : (0 : Int) ≤ k := by omega
    have zb : (z : Int) ≤ 910000000 := by have := HZ.out; omega
    obtain ⟨z1, hz1⟩ : ∃ y : Int, (z : Int) + 1 = y := ⟨_, rfl⟩
    obtain ⟨z2, hz2⟩ : ∃ y : Int, z1 + 1 = y := ⟨_, rfl⟩
    have Z1 : Hid (z1 = ((z + 1 : Nat) : Int)) := by show _ = _; omega
    have Z2 : Hid (z2 = ((z + 2 : Nat) : Int)) := by show _ = _; omega
    have b1 : 0 ≤ z1 ∧ z1 ≤ 910000001 := by omega
    have hT0 : ∀ w0, Calls Tryd.prog 50 #[.int .i64 (z : Int)] w0 fun e w' => e = .returned (.string (mkT z)) ∧ Below w0.heap.size w0 w' := fun w0 => mark_any z w0 (by have := HZ.out; omega) (by have := HZ.out; omega)
    obtain ⟨g, rfl, hr⟩ := HV.out (by intro e; have := congrArg List.length e; rw [mkLayC_len] at this; simp at this; omega)
    obtain ⟨m0, m1⟩ := mkLayC_k k0 (k * 2) (by omega)
    have HK : Hid (LayH w g (k * 2) (mkT z) z1 wr) := by
      have e0 := hr.cell (k := k * 2) (mkLayC_get (by omega))
      have e1 := hr.cell (k := k * 2 + 1) (mkLayC_get (by omega))
      rw [m0, ← HZ.out] at e0
      rw [m1, show k0 + (k * 2 + 1) = z + 1 by have := HZ.out; omega, ← Z1.out] at e1
      exact ⟨(HB.out.cell (p := ⟨g, k * 2, none⟩) (cellLt e0)).trans e0, (HB.out.cell (p := ⟨g, k * 2 + 1, none⟩) (cellLt e1)).trans e1, HB.out⟩
    generalize mkT z = X0 at *
    have t0 := txt_eq X0
    have t1 : (z1 == z1) = true := by simp
    have r1 : (z1 != z1) = false := by simp
    clear m0 m1 hr HB
    go_wp2_with fail
    have HD0 := LayH.drew HK
    clear HK
    go_region_held3 (fun w' => w'.cell? ⟨g, k * 2, none⟩ = some (.string X0) ∧ w'.cell? ⟨g, k * 2 + 1, none⟩ = some (.int .i64 z1) ∧ Hid (LayH w g (k * 2) X0 z1 w'))
      (first | exact LayH.all HD0 | exact LayH.all (LayH.call HD0 h4))
      (first | (go_at_call 50; with_reducible refine (hT0 _).mono ?_; rintro e w4 ⟨rfl, h4⟩))
    all_goals
      as_aux_lemma =>
      have HE0 := LayH.call HD0 h4
      clear HD0 h4
      obtain ⟨p1_0, p1_1, _⟩ := LayH.all HE0
      go_wp2
      go_roundw
      case rel => exact ⟨k + 1, z + 2, by go_num, by rw [Z2.out], by have := HZ.out; show _ = _; omega, hlt, HE0.out.bel⟩
      case measure => simp [intOf]; omega
set_option maxRecDepth 100000 in
theorem markLayS_any (a : Option Addr) (c n k0 : Nat) (L : List Value) (w : World) (hL : L.length = 2 * n) (h : VR w a L) (hn : n ≤ 1100000) (h0 : 1 ≤ k0) (h1 : k0 ≤ 900000000) :
    Calls Tryd.prog 56 #[.slice a n c, .int .i64 (k0 : Int)] w fun e w' => e = .returned (.int .i64 ((k0 + 2 * n : Nat) : Int)) ∧ VR w' a (mkLayC k0 (2 * n)) ∧ MkW a w w' ∧ w.heap.size ≤ w'.heap.size := by
  by_cases hn0 : 0 < n
  · obtain ⟨g, rfl, hr⟩ := h (by intro e; rw [e] at hL; simp at hL; omega)
    refine (markLayS_some g c n k0 L w hL hn0 hr hn h0 h1).mono ?_
    rintro e w' ⟨rfl, h2, h3⟩
    exact ⟨rfl, fun _ => ⟨g, rfl, h2⟩, ⟨fun j hl hx => h3.2 j (hx _ rfl) hl, fun B hB hx => h3.below (hx _ rfl) hB⟩, h3.size⟩
  · obtain rfl : n = 0 := by omega
    clear h hL
    go_enter Tryd.func56, Tryd.ntmps56
    go_wp2_with fail
    go_loopw [1, 5] (fun q i wr => q = .int .i64 (k0 : Int) ∧ i = .int .i64 0 ∧ w = wr) (fun _ _ _ => 0)
    case atStart => exact ⟨rfl, rfl, rfl⟩
    case round =>
      obtain ⟨rfl, rfl, rfl⟩ := hrel
      go_wp2
      go_ret
      exact ⟨rfl, fun hl => absurd rfl hl, ⟨fun _ _ _ => rfl, fun _ _ _ => Below.refl _ _⟩, Nat.le_refl _⟩
end Go.Proofs.YtchfpiadfmnphaaDoor
namespace Go.Proofs.YtchfpiadfmnphaaDoor
open Go.RowKit
set_option linter.unusedVariables false

def mkLabAt (k0 j : Nat) : Value := if j % 2 = 0 then .string (mkT (k0 + j)) else .string (mkT (k0 + j))
def mkLabC (k0 m : Nat) : List Value := (List.range m).map (mkLabAt k0)
theorem mkLabC_len (k0 m : Nat) : (mkLabC k0 m).length = m := by unfold mkLabC; rw [List.length_map, List.length_range]
theorem mkLabC_set (k0 : Nat) (L : List Value) {j : Nat} (h : j < L.length) : mkLabC k0 (j + 1) ++ L.drop (j + 1) = (mkLabC k0 j ++ L.drop j).set j (mkLabAt k0 j) := by
  have e : mkLabC k0 (j + 1) = mkLabC k0 j ++ [mkLabAt k0 j] := by unfold mkLabC; rw [List.range_succ, List.map_append]; rfl
  rw [e, List.set_append, if_neg (by rw [mkLabC_len]; omega), mkLabC_len, Nat.sub_self, List.append_assoc]
  congr 1
  rw [List.drop_eq_getElem_cons h]
  rfl
theorem mkLabC_get {k0 m j : Nat} (h : j < m) : (mkLabC k0 m)[j]? = some (mkLabAt k0 j) := by unfold mkLabC; simp [h]
theorem mkLabC_ne {k0 m : Nat} {L : List Value} (h : L ≠ []) (hm : m ≤ L.length) : mkLabC k0 m ++ L.drop m ≠ [] := by
  intro e
  have := congrArg List.length e
  rw [List.length_append, mkLabC_len, List.length_drop] at this
  cases L with
  | nil => exact h rfl
  | cons x l => simp at this; omega
theorem mkLabC_len2 {k0 m : Nat} {L : List Value} (hm : m ≤ L.length) : (mkLabC k0 m ++ L.drop m).length = L.length := by rw [List.length_append, mkLabC_len, List.length_drop]; omega
theorem mkLabC_k (k0 j : Nat) (h : j % 2 = 0) : mkLabAt k0 j = .string (mkT (k0 + j)) ∧ mkLabAt k0 (j + 1) = .string (mkT (k0 + (j + 1))) := by
  unfold mkLabAt
  exact ⟨if_pos (by omega), (if_neg (by omega)).trans (rfl)⟩
set_option maxRecDepth 100000 in
set_option maxHeartbeats 2000000 in
theorem markLabS_some (g c n k0 : Nat) (L : List Value) (w : World) (hL : L.length = 2 * n) (hn0 : 0 < n) (h : RowV w g L) (hn : n ≤ 1100000) (h0 : 1 ≤ k0) (h1 : k0 ≤ 900000000) :
    Calls Tryd.prog 57 #[.slice (some ⟨g, 0, none⟩) n c, .int .i64 (k0 : Int)] w fun e w' => e = .returned (.int .i64 ((k0 + 2 * n : Nat) : Int)) ∧ RowV w' g (mkLabC k0 (2 * n)) ∧ But g w w' := by
  have hLn : L ≠ [] := by intro e; rw [e] at hL; simp at hL; omega
  have HM : Hid (MkV g (mkLabC k0 0 ++ L.drop 0) w w) := ⟨h, But.refl _ _⟩
  have HL : Hid (L.length = 2 * n) := hL
  clear h hL
  go_enter Tryd.func57, Tryd.ntmps57
  go_wp2_with fail
  go_loopw [1, 5] (fun q i wr => ∃ (k z : Nat), i = .int .i64 (k : Int) ∧ q = .int .i64 (z : Int) ∧ Hid (z = k0 + k * 2) ∧ k ≤ n ∧ Hid (MkV g (mkLabC k0 (k * 2) ++ L.drop (k * 2)) w wr)) (fun _ i _ => n - (intOf i).toNat)
  case atStart => exact ⟨0, k0, rfl, rfl, by show _ = _; omega, Nat.zero_le _, HM⟩
  case round =>
    clear HM
    obtain ⟨k, z, rfl, rfl, HZ, hk, HMk⟩ := hrel
    by_cases hlt : k < n
    case neg =>
      obtain rfl : k = n := by omega
      have e3 : mkLabC k0 (k * 2) ++ L.drop (k * 2) = mkLabC k0 (2 * k) := by rw [Nat.mul_comm k 2, ← HL.out, List.drop_length, List.append_nil]
      rw [e3] at HMk
      go_wp2
      go_ret
      exact ⟨by rw [show k0 + 2 * k = z by have := HZ.out; omega]; rfl, HMk.out.row, HMk.out.but⟩
    have lk : (k : Int) < n := by omega
    have l0 : (0 : Int) ≤ k := by omega
    have zb : (z : Int) ≤ 910000000 := by have := HZ.out; omega
    obtain ⟨m0, m1⟩ := mkLabC_k k0 (k * 2) (by omega)
    obtain ⟨z1, hz1⟩ : ∃ y : Int, (z : Int) + 1 = y := ⟨_, rfl⟩
    obtain ⟨z2, hz2⟩ : ∃ y : Int, z1 + 1 = y := ⟨_, rfl⟩
    have Z1 : Hid (z1 = ((z + 1 : Nat) : Int)) := by show _ = _; omega
    have Z2 : Hid (z2 = ((z + 2 : Nat) : Int)) := by show _ = _; omega
    have b1 : 0 ≤ z1 ∧ z1 ≤ 910000001 := by omega
    have hT0 : ∀ w0, Calls Tryd.prog 50 #[.int .i64 (z : Int)] w0 fun e w' => e = .returned (.string (mkT z)) ∧ Below w0.heap.size w0 w' := fun w0 => mark_any z w0 (by have := HZ.out; omega) (by have := HZ.out; omega)
    have hT1 : ∀ w0, Calls Tryd.prog 50 #[.int .i64 z1] w0 fun e w' => e = .returned (.string (mkT (z + 1))) ∧ Below w0.heap.size w0 w' := fun w0 => by rw [Z1.out]; exact mark_any (z + 1) w0 (by omega) (by have := HZ.out; omega)
    have J0 : Hid (k * 2 < L.length) := by have := HL.out; show _ < _; omega
    have J1 : Hid (k * 2 + 1 < L.length) := by have := HL.out; show _ < _; omega
    have E0 := hidP (mkLabC_set k0 L J0.out)
    have E1 := hidP (mkLabC_set k0 L J1.out)
    rw [m0, ← HZ.out] at E0
    rw [m1, show k0 + (k * 2 + 1) = z + 1 by have := HZ.out; omega] at E1
    have N0 := hidP (mkLabC_ne (k0 := k0) hLn (Nat.le_of_lt J0.out))
    have N1 := hidP (mkLabC_ne (k0 := k0) hLn (Nat.le_of_lt J1.out))
    have L0 := hidP (Nat.lt_of_lt_of_eq J0.out (mkLabC_len2 (k0 := k0) (Nat.le_of_lt J0.out)).symm)
    have L1 := hidP (Nat.lt_of_lt_of_eq J1.out (mkLabC_len2 (k0 := k0) (Nat.le_of_lt J1.out)).symm)
    generalize mkLabC k0 (k * 2) ++ L.drop (k * 2) = M0 at *
    generalize mkLabC k0 (k * 2 + 1) ++ L.drop (k * 2 + 1) = M1 at *
    generalize mkT z = X0 at *
    generalize mkT (z + 1) = X1 at *
    clear m0 m1
    go_wp2_with (first
      | (go_at_call 50; with_reducible refine (hT0 wr).mono ?_; rintro e wa ⟨rfl, hBa⟩; have HMa := MkV.call HMk N0.out hBa)
      | (refine wpList_cellH (w := wa) (by with_unfolding_all rfl) 9 (.tmp 17) (.tmp 15) (by with_unfolding_all rfl) g (k * 2) M0 M1 (.string X0) (by with_unfolding_all rfl) (by with_unfolding_all rfl) rfl Tryd.siz1T HMa.out.row L0.out E0.out ?_; intro wb hAb hBb hFb hSb; have HMb := MkV.put HMa hAb (Only.set hBb hFb hSb))
      | (go_at_call 50; with_reducible refine (hT1 wb).mono ?_; rintro e wc ⟨rfl, hBc⟩; have HMc := MkV.call HMb N1.out hBc)
      | (refine wpList_cellH (w := wc) (by with_unfolding_all rfl) 9 (.tmp 25) (.tmp 23) (by with_unfolding_all rfl) g (k * 2 + 1) M1 (mkLabC k0 (k * 2 + 1 + 1) ++ L.drop (k * 2 + 1 + 1)) (.string X1) (by with_unfolding_all rfl) (by with_unfolding_all rfl) rfl Tryd.siz1T HMc.out.row L1.out E1.out ?_; intro wd hAd hBd hFd hSd; have HMd := MkV.put HMc hAd (Only.set hBd hFd hSd)))
    go_roundw
    case rel => exact ⟨k + 1, z + 2, by go_num, by rw [Z2.out], by have := HZ.out; show _ = _; omega, hlt, by rw [show (k + 1) * 2 = k * 2 + 1 + 1 by omega]; exact HMd⟩
    case measure => simp [intOf]; omega
structure LabH (w : World) (g o : Nat) (X0 : ByteArray) (X1 : ByteArray) (w' : World) : Prop where
  c0 : w'.cell? ⟨g, o, none⟩ = some (.string X0)
  c1 : w'.cell? ⟨g, o + 1, none⟩ = some (.string X1)
  bel : Below w.heap.size w w'
theorem LabH.call {w w' w2 : World} {g o : Nat} {X0 : ByteArray} {X1 : ByteArray} (h : Hid (LabH w g o X0 X1 w')) (hb : Below w'.heap.size w' w2) : Hid (LabH w g o X0 X1 w2) :=
  ⟨(hb.cell (p := ⟨g, o, none⟩) (cellLt h.out.c0)).trans h.out.c0, (hb.cell (p := ⟨g, o + 1, none⟩) (cellLt h.out.c1)).trans h.out.c1, h.out.bel.trans (hb.mono h.out.bel.size)⟩
theorem LabH.drew {w w' : World} {g o : Nat} {X0 : ByteArray} {X1 : ByteArray} (h : Hid (LabH w g o X0 X1 w')) : Hid (LabH w g o X0 X1 w'.drew) := ⟨h.out.c0, h.out.c1, h.out.bel.drew⟩
theorem LabH.all {w w' : World} {g o : Nat} {X0 : ByteArray} {X1 : ByteArray} (h : Hid (LabH w g o X0 X1 w')) : w'.cell? ⟨g, o, none⟩ = some (.string X0) ∧ w'.cell? ⟨g, o + 1, none⟩ = some (.string X1) ∧ Hid (LabH w g o X0 X1 w') := ⟨h.out.c0, h.out.c1, h⟩
set_option maxRecDepth 100000 in
set_option maxHeartbeats 2000000 in
theorem heldLabS_any (a : Option Addr) (c n k0 : Nat) (w : World) (h : VR w a (mkLabC k0 (2 * n))) (hn : n ≤ 1100000) (h0 : 1 ≤ k0) (h1 : k0 ≤ 900000000) :
    Calls Tryd.prog 59 #[.slice a n c, .int .i64 (k0 : Int)] w fun e w' => e = .returned (.int .i64 ((k0 + 2 * n : Nat) : Int)) ∧ Below w.heap.size w w' := by
  have HV : Hid (VR w a (mkLabC k0 (2 * n))) := h
  clear h
  go_enter Tryd.func59, Tryd.ntmps59
  go_wp2_with fail
  go_loopw [1, 5] (fun q i wr => ∃ (k z : Nat), i = .int .i64 (k : Int) ∧ q = .int .i64 (z : Int) ∧ Hid (z = k0 + k * 2) ∧ k ≤ n ∧ Hid (Below w.heap.size w wr)) (fun _ i _ => n - (intOf i).toNat)
  case atStart => exact ⟨0, k0, rfl, rfl, by show _ = _; omega, Nat.zero_le _, Below.refl _ _⟩
  case round =>
    obtain ⟨k, z, rfl, rfl, HZ, hk, HB⟩ := hrel
    by_cases hlt : k < n
    case neg =>
      obtain rfl : k = n := by omega
      go_wp2
      go_ret
      exact ⟨by rw [show k0 + 2 * k = z by have := HZ.out; omega]; rfl, HB.out⟩
    have lk : (k : Int) < n := by omega
    have l0 : (0 : Int) ≤ k := by omega
    have zb : (z : Int) ≤ 910000000 := by have := HZ.out; omega
    obtain ⟨z1, hz1⟩ : ∃ y : Int, (z : Int) + 1 = y := ⟨_, rfl⟩
    obtain ⟨z2, hz2⟩ : ∃ y : Int, z1 + 1 = y := ⟨_, rfl⟩
    have Z1 : Hid (z1 = ((z + 1 : Nat) : Int)) := by show _ = _; omega
    have Z2 : Hid (z2 = ((z + 2 : Nat) : Int)) := by show _ = _; omega
    have b1 : 0 ≤ z1 ∧ z1 ≤ 910000001 := by omega
    have hT0 : ∀ w0, Calls Tryd.prog 50 #[.int .i64 (z : Int)] w0 fun e w' => e = .returned (.string (mkT z)) ∧ Below w0.heap.size w0 w' := fun w0 => mark_any z w0 (by have := HZ.out; omega) (by have := HZ.out; omega)
    have hT1 : ∀ w0, Calls Tryd.prog 50 #[.int .i64 z1] w0 fun e w' => e = .returned (.string (mkT (z + 1))) ∧ Below w0.heap.size w0 w' := fun w0 => by rw [Z1.out]; exact mark_any (z + 1) w0 (by omega) (by have := HZ.out; omega)
    obtain ⟨g, rfl, hr⟩ := HV.out (by intro e; have := congrArg List.length e; rw [mkLabC_len] at this; simp at this; omega)
    obtain ⟨m0, m1⟩ := mkLabC_k k0 (k * 2) (by omega)
    have HK : Hid (LabH w g (k * 2) (mkT z) (mkT (z + 1)) wr) := by
      have e0 := hr.cell (k := k * 2) (mkLabC_get (by omega))
      have e1 := hr.cell (k := k * 2 + 1) (mkLabC_get (by omega))
      rw [m0, ← HZ.out] at e0
      rw [m1, show k0 + (k * 2 + 1) = z + 1 by have := HZ.out; omega] at e1
      exact ⟨(HB.out.cell (p := ⟨g, k * 2, none⟩) (cellLt e0)).trans e0, (HB.out.cell (p := ⟨g, k * 2 + 1, none⟩) (cellLt e1)).trans e1, HB.out⟩
    generalize mkT z = X0 at *
    generalize mkT (z + 1) = X1 at *
    have t0 := txt_eq X0
    have t1 := txt_eq X1
    clear m0 m1 hr HB
    go_wp2_with fail
    have HD0 := LabH.drew HK
    clear HK
    go_region_held3 (fun w' => w'.cell? ⟨g, k * 2, none⟩ = some (.string X0) ∧ w'.cell? ⟨g, k * 2 + 1, none⟩ = some (.string X1) ∧ Hid (LabH w g (k * 2) X0 X1 w'))
      (first | exact LabH.all HD0 | exact LabH.all (LabH.call HD0 h4))
      (first | (go_at_call 50; with_reducible refine (hT0 _).mono ?_; rintro e w4 ⟨rfl, h4⟩))
    all_goals
      as_aux_lemma =>
      have HE0 := LabH.call HD0 h4
      clear HD0 h4
      go_wp2_with fail
      have HD1 := LabH.drew HE0
      clear HE0
      go_region_held3 (fun w' => w'.cell? ⟨g, k * 2, none⟩ = some (.string X0) ∧ w'.cell? ⟨g, k * 2 + 1, none⟩ = some (.string X1) ∧ Hid (LabH w g (k * 2) X0 X1 w'))
        (first | exact LabH.all HD1 | exact LabH.all (LabH.call HD1 h5))
        (first | (go_at_call 50; with_reducible refine (hT1 _).mono ?_; rintro e w5 ⟨rfl, h5⟩))
      all_goals
        as_aux_lemma =>
        have HE1 := LabH.call HD1 h5
        clear HD1 h5
        go_wp2
        go_roundw
        case rel => exact ⟨k + 1, z + 2, by go_num, by rw [Z2.out], by have := HZ.out; show _ = _; omega, hlt, HE1.out.bel⟩
        case measure => simp [intOf]; omega
set_option maxRecDepth 100000 in
theorem markLabS_any (a : Option Addr) (c n k0 : Nat) (L : List Value) (w : World) (hL : L.length = 2 * n) (h : VR w a L) (hn : n ≤ 1100000) (h0 : 1 ≤ k0) (h1 : k0 ≤ 900000000) :
    Calls Tryd.prog 57 #[.slice a n c, .int .i64 (k0 : Int)] w fun e w' => e = .returned (.int .i64 ((k0 + 2 * n : Nat) : Int)) ∧ VR w' a (mkLabC k0 (2 * n)) ∧ MkW a w w' ∧ w.heap.size ≤ w'.heap.size := by
  by_cases hn0 : 0 < n
  · obtain ⟨g, rfl, hr⟩ := h (by intro e; rw [e] at hL; simp at hL; omega)
    refine (markLabS_some g c n k0 L w hL hn0 hr hn h0 h1).mono ?_
    rintro e w' ⟨rfl, h2, h3⟩
    exact ⟨rfl, fun _ => ⟨g, rfl, h2⟩, ⟨fun j hl hx => h3.2 j (hx _ rfl) hl, fun B hB hx => h3.below (hx _ rfl) hB⟩, h3.size⟩
  · obtain rfl : n = 0 := by omega
    clear h hL
    go_enter Tryd.func57, Tryd.ntmps57
    go_wp2_with fail
    go_loopw [1, 5] (fun q i wr => q = .int .i64 (k0 : Int) ∧ i = .int .i64 0 ∧ w = wr) (fun _ _ _ => 0)
    case atStart => exact ⟨rfl, rfl, rfl⟩
    case round =>
      obtain ⟨rfl, rfl, rfl⟩ := hrel
      go_wp2
      go_ret
      exact ⟨rfl, fun hl => absurd rfl hl, ⟨fun _ _ _ => rfl, fun _ _ _ => Below.refl _ _⟩, Nat.le_refl _⟩
end Go.Proofs.YtchfpiadfmnphaaDoor
