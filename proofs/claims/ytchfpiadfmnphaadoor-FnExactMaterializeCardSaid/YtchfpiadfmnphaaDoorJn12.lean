/- The bytes of a link, on the specification's side. Right versions, times, kinds and links, on the program's side. The program's reader of a link. The program's cursor: text, count. Bytes and counts that a cursor reads. -/
import Derived.Test.YtchfpiadfmnphaaDoorMet
import Derived.Test.YtchfpiadfmnphaaDoorJn1
import Derived.Test.YtchfpiadfmnphaaDoorSRow
import Derived.Deep.RegionHeld3
import Derived.Test.YtchfpiadfmnphaaDoorJn13
namespace Go.Proofs.YtchfpiadfmnphaaDoor
open Go.RowKit
set_option linter.unusedVariables false

def kindB (k : Int) : ByteArray := if k = 2 then ⟨#[80]⟩ else if k = 3 then ⟨#[77]⟩ else ⟨#[]⟩
def lkv (v e x : Int) : List Value := [.int .i64 v, .int .i64 e, .int .i64 x]
theorem RowV.lk {w : World} {g : Nat} {v e x : Int} (h : RowV w g (lkv v e x)) : w.cell? ⟨g, 0, none⟩ = some (.int .i64 v) ∧ w.cell? ⟨g, 1, none⟩ = some (.int .i64 e) ∧ w.cell? ⟨g, 2, none⟩ = some (.int .i64 x) := ⟨h.cell (k := 0) rfl, h.cell (k := 1) rfl, h.cell (k := 2) rfl⟩
theorem lkv_ne (v e x : Int) : lkv v e x ≠ [] := by simp [lkv]
def linkB (v e x : Int) : Bool := verB v && (timB e && verB x)
def linkBy (k v e x : Int) : ByteArray := if (k = 2 ∨ k = 3) ∧ linkB v e x = true then ((kindB k ++ putS v) ++ putS e) ++ putS x else ⟨#[]⟩
structure KpLk (w : World) (g : Nat) (v e x : Int) (w' : World) : Prop where
  below : Below w.heap.size w w'
  row : RowV w' g (lkv v e x)
theorem KpLk.start {w w' : World} {g : Nat} {v e x : Int} (h1 : Below w.heap.size w w') (h2 : RowV w' g (lkv v e x)) : Hid (KpLk w g v e x w') := ⟨h1, h2⟩
theorem KpLk.call {w w' w2 : World} {g : Nat} {v e x : Int} (h : Hid (KpLk w g v e x w')) (hb : Below w'.heap.size w' w2) : Hid (KpLk w g v e x w2) := ⟨h.out.below.trans (hb.mono h.out.below.size), h.out.row.below hb (h.out.row.lt (lkv_ne _ _ _))⟩
theorem KpLk.drew {w w' : World} {g : Nat} {v e x : Int} (h : Hid (KpLk w g v e x w')) : Hid (KpLk w g v e x w'.drew) := ⟨h.out.below.drew, h.out.row.drew⟩
theorem KpLk.three {w w' : World} {g : Nat} {v e x : Int} (h : Hid (KpLk w g v e x w')) : w'.cell? ⟨g, 0, none⟩ = some (.int .i64 v) ∧ w'.cell? ⟨g, 1, none⟩ = some (.int .i64 e) ∧ w'.cell? ⟨g, 2, none⟩ = some (.int .i64 x) ∧ Hid (KpLk w g v e x w') := ⟨h.out.row.lk.1, h.out.row.lk.2.1, h.out.row.lk.2.2, h⟩
end Go.Proofs.YtchfpiadfmnphaaDoor
namespace Go.Proofs.YtchfpiadfmnphaaDoor
open Go.RowKit
set_option linter.unusedVariables false

end Go.Proofs.YtchfpiadfmnphaaDoor
namespace Go.Proofs.YtchfpiadfmnphaaDoor
open Go.RowKit
set_option linter.unusedVariables false

theorem i64n {n : Nat} (h : n ≤ 9223372036854775807) : I64 (n : Int) := by
  unfold I64
  simp [Lit.wf, IntKind.min, IntKind.max, IntKind.signed, IntKind.bits]
  omega
def numO (t : ByteArray) (p : Nat) : Option (Int × Nat) := if (getN t p).code = 0 then some ((getN t p).n, (getN t p).behind.toNat) else none
theorem numO_some {t : ByteArray} {p b : Nat} {n : Int} (h : numO t p = some (n, b)) : getN t p = ⟨n, b, 0⟩ ∧ b ≤ t.size ∧ t.size ≤ 20000 := by
  unfold numO at h
  rcases getN_ways t p with ⟨c, hc, hg⟩ | ⟨m, d, hg, h1, h2⟩
  · rw [hg, if_neg hc] at h; cases h
  · rw [hg, if_pos rfl] at h
    have := Option.some.inj h
    injection this with e1 e2
    simp at e1 e2
    subst e1 e2
    exact ⟨hg, h1, h2⟩
theorem numO_none {t : ByteArray} {p : Nat} (h : numO t p = none) : ∃ c, c ≠ 0 ∧ getN t p = ⟨0, 0, c⟩ := by
  unfold numO at h
  rcases getN_ways t p with ⟨c, hc, hg⟩ | ⟨m, d, hg, h1, h2⟩
  · exact ⟨c, hc, hg⟩
  · rw [hg, if_pos rfl] at h; cases h
theorem numYes (g p b : Nat) (t : ByteArray) (n : Int) (w : World) (hs : t.size ≤ maxLen) (hn : numO t p = some (n, b) ∧ p ≤ t.size) (h : RowV w g (cuv t p)) :
    Calls Tryd.prog 82 #[.pointer (some ⟨g, 0, none⟩)] w fun e w' => e = .returned (.int .i64 n) ∧ RowV w' g (cuv t b) ∧ Only g w w' :=
  numberYes g b t p n w (i64n (by unfold maxLen at hs; omega)) hs (numO_some hn.1).1 h
theorem numNo (g p : Nat) (t : ByteArray) (w : World) (hs : t.size ≤ maxLen) (hn : numO t p = none) (hp : p ≤ t.size) (h : RowV w g (cuv t p)) :
    Calls Tryd.prog 82 #[.pointer (some ⟨g, 0, none⟩)] w fun e w' => e = .panicked [{ v := faultV, recovered := false }] ∧ Only g w w' := by
  obtain ⟨c, hc, hg⟩ := numO_none hn
  exact numberNo g t p c w (i64n (by unfold maxLen at hs; omega)) hs hc hg h
theorem lkv_one (v e x : Int) : ∀ y ∈ lkv v e x, y.oneCell' = true := by
  intro y hy
  simp [lkv] at hy
  rcases hy with h | h | h <;> (rw [h]; rfl)
theorem KpM.apartN {g b : Nat} {r l : List Value} {w w' : World} (h : Hid (KpM g r [(b, l)] w w')) : b < w'.heap.size := (h.out.own _ (List.mem_cons_self ..)).2.2.lt (h.out.own _ (List.mem_cons_self ..)).2.1
theorem one_apart {b c : Nat} {l : List Value} (h : b < c) : ∀ x ∈ [(b, l)], x.1 ≠ c := fun x hx => by
  obtain rfl := List.mem_singleton.1 hx
  exact Nat.ne_of_lt h
/- The last store goes into the call's own variable: what a caller knows. -/
theorem KpM.putOf {g b : Nat} {r l l' : List Value} {rows : List (Nat × List Value)} {w w' w2 : World} (h : Hid (KpM g r ((b, l) :: rows) w w')) (hr : RowV w2 b l') (hn : l' ≠ []) (ho : Only b w' w2) : RowV w2 g r ∧ Only g w w2 := by
  have h1 := h.out.own (b, l) (List.mem_cons_self ..)
  have hb : w.heap.size ≤ b := h1.1
  have hg := h.out.lt
  refine ⟨ho.row h.out.row h.out.ne (by omega), ⟨h.out.only.below.trans (ho.below.mono (by omega)), fun x hx hl => ?_, Nat.le_trans h.out.only.size ho.size⟩⟩
  have h2 := h.out.only.blk x hx hl
  have h3 := ho.blk x (by omega) (Nat.lt_of_lt_of_le hl h.out.only.size)
  exact h3.trans h2
end Go.Proofs.YtchfpiadfmnphaaDoor
namespace Go.Proofs.YtchfpiadfmnphaaDoor
open Go.RowKit
set_option linter.unusedVariables false

def textO (t : ByteArray) (p : Nat) : Option (ByteArray × Nat) := if (getT t p).code = 0 then some ((getT t p).text, (getT t p).behind.toNat) else none
theorem textO_some {t x : ByteArray} {p b : Nat} (h : textO t p = some (x, b)) : getT t p = ⟨x, b, 0⟩ ∧ b ≤ t.size ∧ x.size ≤ t.size ∧ t.size ≤ 20000 := by
  unfold textO at h
  rcases getT_ways t p with ⟨c, hc, _, ht⟩ | ⟨n, b', _, _, _, _, ht⟩ | ⟨m, b', _, _, _, _, _, ht⟩ | ⟨m, b', _, _, h1, h2, h3, ht⟩
  · rw [ht, if_neg hc] at h; cases h
  · rw [ht, if_neg (by decide)] at h; cases h
  · rw [ht, if_neg (by decide)] at h; cases h
  · rw [ht, if_pos rfl] at h
    have := Option.some.inj h
    injection this with e1 e2
    simp at e1 e2
    subst e1
    have e3 : b = b' + m := by omega
    subst e3
    exact ⟨ht, by omega, by rw [ByteArray.size_extract]; omega, h2⟩
theorem textO_none {t : ByteArray} {p : Nat} (h : textO t p = none) : ∃ c, c ≠ 0 ∧ getT t p = ⟨noText, 0, c⟩ := by
  unfold textO at h
  rcases getT_ways t p with ⟨c, hc, _, ht⟩ | ⟨n, b', _, _, _, _, ht⟩ | ⟨m, b', _, _, _, _, _, ht⟩ | ⟨m, b', _, _, _, _, _, ht⟩
  · exact ⟨c, hc, ht⟩
  · exact ⟨3, by decide, ht⟩
  · exact ⟨4, by decide, ht⟩
  · rw [ht, if_pos rfl] at h; cases h
set_option maxRecDepth 100000 in
set_option maxHeartbeats 1000000 in
theorem textYes (g p b : Nat) (t x : ByteArray) (w : World) (hs : t.size ≤ maxLen) (hn : textO t p = some (x, b) ∧ p ≤ t.size) (h : RowV w g (cuv t p)) :
    Calls Tryd.prog 79 #[.pointer (some ⟨g, 0, none⟩)] w fun e w' => e = .returned (.string x) ∧ RowV w' g (cuv t b) ∧ Only g w w' := by
  obtain ⟨hg, -, -⟩ := textO_some hn.1
  have hN : ∀ w0, Calls Tryd.prog 102 #[.string t, .int .i64 (p : Int)] w0 fun e w' => e = .returned (.tuple #[.string x, .int .i64 (b : Int), .nilIface]) ∧ Below w0.heap.size w0 w' := fun w0 => by
    have := readText_any t p w0 hs (i64n (by unfold maxLen at hs; have := hn.2; omega))
    rw [hg] at this
    exact this
  have hM : ∀ w0, Calls Tryd.prog 78 #[.pointer (some ⟨g, 0, none⟩), .bool true] w0 fun e w' => e = .returned (.tuple #[]) ∧ w0 = w' := fun w0 => mustYes _ w0
  have HK0 := KpCu.drew (KpCu.start (Only.refl g w) h)
  obtain ⟨c0, c1⟩ := h.cu
  clear hg hn h
  go_enter Tryd.func79, Tryd.ntmps79
  go_wp2_with fail
  clear c0 c1
  go_region_held3 (fun w' => w'.cell? ⟨g, 0, none⟩ = some (.string t) ∧ w'.cell? ⟨g, 1, none⟩ = some (.int .i64 (p : Int)) ∧ Hid (KpCu g (cuv t p) w w'))
    (first | exact KpCu.two HK0 | exact KpCu.two (KpCu.call HK0 (cuv_ne _ _) h8))
    (first
      | (go_at_call 102; with_reducible refine (hN _).mono ?_; rintro r w8 ⟨rfl, h8⟩))
  all_goals
    have HK8 := KpCu.call HK0 (cuv_ne _ _) h8
    go_wp2_with (first
      | (go_at_call 78; with_reducible refine (hM _).mono ?_; rintro e w' ⟨rfl, rfl⟩)
      | (with_reducible refine wpList_cellH (w := w8) (by with_unfolding_all rfl) 2 (.tmp 26) (.tmp 24) (by with_unfolding_all rfl) g 1 (cuv t p) (cuv t b) (.int .i64 (b : Int)) (by with_unfolding_all rfl) (by with_unfolding_all rfl) rfl Tryd.siz1I HK8.out.row (by simp [cuv]) (by with_unfolding_all rfl) ?_; intro w2 hA2 hB2 hF2 hS2))
    go_ret
    exact ⟨rfl, hA2, HK8.out.only.trans (Only.set hB2 hF2 hS2)⟩
set_option maxRecDepth 100000 in
set_option maxHeartbeats 1000000 in
theorem textNo (g p : Nat) (t : ByteArray) (w : World) (hs : t.size ≤ maxLen) (hn : textO t p = none) (hp : p ≤ t.size) (h : RowV w g (cuv t p)) :
    Calls Tryd.prog 79 #[.pointer (some ⟨g, 0, none⟩)] w fun e w' => e = .panicked [{ v := faultV, recovered := false }] ∧ Only g w w' := by
  obtain ⟨c, hc, hg⟩ := textO_none hn
  have hN : ∀ w0, Calls Tryd.prog 102 #[.string t, .int .i64 (p : Int)] w0 fun e w' => e = .returned (.tuple #[.string noText, .int .i64 0, .iface 149 (.agg #[.int .i64 c])]) ∧ Below w0.heap.size w0 w' := fun w0 => by
    have := readText_any t p w0 hs (i64n (by unfold maxLen at hs; omega))
    rw [hg] at this
    unfold tr errV at this
    rw [if_neg hc] at this
    exact this
  have hM : ∀ w0, Calls Tryd.prog 78 #[.pointer (some ⟨g, 0, none⟩), .bool false] w0 fun e w' => e = .panicked [{ v := faultV, recovered := false }] ∧ w0 = w' := fun w0 => mustNo _ w0
  have HK0 := KpCu.drew (KpCu.start (Only.refl g w) h)
  obtain ⟨c0, c1⟩ := h.cu
  clear hg hn h hc
  go_enter Tryd.func79, Tryd.ntmps79
  go_wp2_with fail
  clear c0 c1
  go_region_held3 (fun w' => w'.cell? ⟨g, 0, none⟩ = some (.string t) ∧ w'.cell? ⟨g, 1, none⟩ = some (.int .i64 (p : Int)) ∧ Hid (KpCu g (cuv t p) w w'))
    (first | exact KpCu.two HK0 | exact KpCu.two (KpCu.call HK0 (cuv_ne _ _) h8))
    (first
      | (go_at_call 102; with_reducible refine (hN _).mono ?_; rintro r w8 ⟨rfl, h8⟩))
  all_goals
    have HK8 := KpCu.call HK0 (cuv_ne _ _) h8
    go_wp2_with (first
      | (go_at_call 78; with_reducible refine (hM _).mono ?_; rintro e w' ⟨rfl, rfl⟩))
    exact ⟨rfl, rfl, HK8.out.only⟩
def countO (t : ByteArray) (p : Nat) (most : Nat) : Option (Nat × Nat) := match numO t p with
  | some (n, b) => if 0 ≤ n ∧ n ≤ (most : Int) then some (n.toNat, b) else none
  | none => none
set_option maxRecDepth 100000 in
set_option maxHeartbeats 1000000 in
theorem countYes (g p b m k : Nat) (t : ByteArray) (w : World) (hs : t.size ≤ maxLen) (hn : countO t p m = some (k, b) ∧ p ≤ t.size) (h : RowV w g (cuv t p)) :
    Calls Tryd.prog 80 #[.pointer (some ⟨g, 0, none⟩), .int .i64 (m : Int)] w fun e w' => e = .returned (.int .i64 (k : Int)) ∧ RowV w' g (cuv t b) ∧ Only g w w' := by
  obtain ⟨n, hno, h1, h2⟩ : ∃ n : Int, numO t p = some (n, b) ∧ (0 ≤ n ∧ n ≤ (m : Int)) ∧ n = (k : Int) := by
    have := hn.1
    unfold countO at this
    cases ho : numO t p with
    | none => rw [ho] at this; cases this
    | some x =>
      obtain ⟨n, b'⟩ := x
      rw [ho] at this
      simp only at this
      split at this
      · rename_i hh
        have := Option.some.inj this
        injection this with e1 e2
        subst e2
        exact ⟨n, rfl, hh, by omega⟩
      · cases this
  subst h2
  have hN : Hid (Calls Tryd.prog 82 #[.pointer (some ⟨g, 0, none⟩)] w fun e w' => e = .returned (.int .i64 (k : Int)) ∧ RowV w' g (cuv t b) ∧ Only g w w') := numYes g p b t k w hs ⟨hno, hn.2⟩ h
  have hM : ∀ w0, Calls Tryd.prog 78 #[.pointer (some ⟨g, 0, none⟩), .bool true] w0 fun e w' => e = .returned (.tuple #[]) ∧ w0 = w' := fun w0 => mustYes _ w0
  have d1 : decide ((0 : Int) ≤ (k : Int)) = true := decide_eq_true h1.1
  have d2 : decide ((k : Int) ≤ (m : Int)) = true := decide_eq_true h1.2
  have d3 : decide (k ≤ m) = true := decide_eq_true (by omega)
  clear h hn hno h1
  go_enter Tryd.func80, Tryd.ntmps80
  go_wp2_with (first
    | (go_at_call 82; refine Calls.mono hN.out ?_; rintro e w1 ⟨rfl, hR1, hO1⟩)
    | (go_at_call 78; with_reducible refine (hM _).mono ?_; rintro e w' ⟨rfl, rfl⟩))
  go_ret
  exact ⟨rfl, hR1, hO1⟩
set_option maxRecDepth 100000 in
set_option maxHeartbeats 1000000 in
theorem countNo (g p m : Nat) (t : ByteArray) (w : World) (hs : t.size ≤ maxLen) (hn : countO t p m = none) (hp : p ≤ t.size) (h : RowV w g (cuv t p)) :
    Calls Tryd.prog 80 #[.pointer (some ⟨g, 0, none⟩), .int .i64 (m : Int)] w fun e w' => e = .panicked [{ v := faultV, recovered := false }] ∧ Only g w w' := by
  have hM : ∀ w0, Calls Tryd.prog 78 #[.pointer (some ⟨g, 0, none⟩), .bool false] w0 fun e w' => e = .panicked [{ v := faultV, recovered := false }] ∧ w0 = w' := fun w0 => mustNo _ w0
  cases ho : numO t p with
  | none =>
    have hN : Hid (Calls Tryd.prog 82 #[.pointer (some ⟨g, 0, none⟩)] w fun e w' => e = .panicked [{ v := faultV, recovered := false }] ∧ Only g w w') := numNo g p t w hs ho hp h
    clear h hn ho
    go_enter Tryd.func80, Tryd.ntmps80
    go_wp2_with (first
      | (go_at_call 82; refine Calls.mono hN.out ?_; rintro e w1 ⟨rfl, hO1⟩))
    exact ⟨rfl, rfl, hO1⟩
  | some x =>
    obtain ⟨n, b⟩ := x
    have hnn : ¬ (0 ≤ n ∧ n ≤ (m : Int)) := fun hh => by
      unfold countO at hn
      rw [ho] at hn
      simp only at hn
      rw [if_pos hh] at hn
      cases hn
    have hN : Hid (Calls Tryd.prog 82 #[.pointer (some ⟨g, 0, none⟩)] w fun e w' => e = .returned (.int .i64 n) ∧ RowV w' g (cuv t b) ∧ Only g w w') := numYes g p b t n w hs ⟨ho, hp⟩ h
    clear h hn ho
    by_cases h0 : 0 ≤ n
    · have d1 : decide ((0 : Int) ≤ n) = true := decide_eq_true h0
      have d2 : decide (n ≤ (m : Int)) = false := decide_eq_false (fun h => hnn ⟨h0, h⟩)
      clear hnn
      go_enter Tryd.func80, Tryd.ntmps80
      go_wp2_with (first
        | (go_at_call 82; refine Calls.mono hN.out ?_; rintro e w1 ⟨rfl, hR1, hO1⟩)
        | (go_at_call 78; with_reducible refine (hM _).mono ?_; rintro e w' ⟨rfl, rfl⟩))
      exact ⟨rfl, rfl, hO1⟩
    · have d1 : decide ((0 : Int) ≤ n) = false := decide_eq_false h0
      clear hnn
      go_enter Tryd.func80, Tryd.ntmps80
      go_wp2_with (first
        | (go_at_call 82; refine Calls.mono hN.out ?_; rintro e w1 ⟨rfl, hR1, hO1⟩)
        | (go_at_call 78; with_reducible refine (hM _).mono ?_; rintro e w' ⟨rfl, rfl⟩))
      exact ⟨rfl, rfl, hO1⟩
end Go.Proofs.YtchfpiadfmnphaaDoor
namespace Go.Proofs.YtchfpiadfmnphaaDoor
open Go.RowKit
set_option linter.unusedVariables false

def bytesO (t : ByteArray) (p n : Nat) : Option (ByteArray × Nat) := if p + n ≤ t.size then some (t.extract p (p + n), p + n) else none
theorem bytesO_no {t : ByteArray} {p n : Nat} (h : bytesO t p n = none) : t.size < p + n := by
  unfold bytesO at h
  split at h
  · cases h
  · omega
theorem bytesO_yes {t x : ByteArray} {p n b : Nat} (h : bytesO t p n = some (x, b)) : x = t.extract p b ∧ p + n = b ∧ b ≤ t.size := by
  unfold bytesO at h
  split at h
  · injection h with h
    injection h with h1 h2
    subst h2
    exact ⟨h1.symm, rfl, by assumption⟩
  · cases h
theorem countO_le {t : ByteArray} {p m k b : Nat} (h : countO t p m = some (k, b)) : k ≤ m ∧ b ≤ t.size := by
  unfold countO at h
  cases hn : numO t p with
  | none => rw [hn] at h; cases h
  | some u =>
    obtain ⟨n, c⟩ := u
    rw [hn] at h
    simp only at h
    split at h
    · have := Option.some.inj h
      injection this with e1 e2
      subst e2
      exact ⟨by omega, (numO_some hn).2.1⟩
    · cases h
theorem unf_i64 {u : Nat} (h : u ≤ 18446744073709551615) : I64 (unf u) := by
  unfold I64 unf
  split <;> simp [Lit.wf, IntKind.min, IntKind.max, IntKind.signed, IntKind.bits] <;> omega
theorem Rd.i64 {s : ByteArray} {a : Nat} {R : G} : ∀ (m i u : Nat), i + m = 9 → Rd s a R i u → R.code = 0 → I64 R.n
  | m, i, u, hm, h, hc => by
    by_cases hlt : a + i < s.size
    · by_cases hl : s[a + i].toNat < 128 ∨ i = 9
      · have he := h.last hlt rfl hl
        unfold fin at he
        split at he
        · rw [he] at hc; exact absurd hc (by decide)
        · rename_i hn
          rw [he]
          exact unf_i64 (h.sum (d := s[a + i].toNat) (by omega) (by omega))
      · have h2 := h.more hlt rfl (by omega) (by omega)
        match m, hm with
        | 0, hm => omega
        | m + 1, hm => exact Rd.i64 m (i + 1) _ (by omega) h2 hc
    · rw [h.short hlt] at hc; exact absurd hc (by decide)
theorem numO_i64 {t : ByteArray} {p b : Nat} {n : Int} (h : numO t p = some (n, b)) : I64 n := by
  obtain ⟨hg, -, h2⟩ := numO_some h
  have hh : scan t p 10 0 0 = ⟨n, b, 0⟩ := by
    have := hg
    unfold getN at this
    rw [if_neg (by omega), if_neg (by omega)] at this
    simpa using this
  have := Rd.i64 9 0 0 rfl (Rd.start t p) (by rw [hh])
  rw [hh] at this
  exact this
end Go.Proofs.YtchfpiadfmnphaaDoor
