/- The bytes of a link, on the specification's side. -/
import Derived.Test.YtnlalnkoggkdfaaMet
import Derived.Test.YtnlalnkoggkdfaaPutT
import Derived.Test.YtnlalnkoggkdfaaSRow
import Derived.Deep.RegionHeld3
namespace Go.Proofs.Ytnlalnkoggkdfaa
open Go.RowKit
set_option linter.unusedVariables false

def kindB (k : Int) : ByteArray := if k = 2 then ⟨#[80]⟩ else if k = 3 then ⟨#[77]⟩ else ⟨#[]⟩
theorem specKind (k : Int) (w : World) : Calls Try.prog 75 #[.int .i64 k] w fun e w' => e = .returned (.string (kindB k)) ∧ w = w' := by
  unfold kindB
  by_cases h2 : k = 2
  · subst h2
    rw [if_pos rfl]
    go_enter Try.func75, Try.ntmps75
    go_wp2
    go_ret
    exact ⟨rfl, rfl⟩
  rw [if_neg h2]
  have d2 : (k == 2) = false := beq_eq_false_iff_ne.2 h2
  by_cases h3 : k = 3
  · subst h3
    rw [if_pos rfl]
    go_enter Try.func75, Try.ntmps75
    go_wp2
    go_ret
    exact ⟨rfl, rfl⟩
  rw [if_neg h3]
  have d3 : (k == 3) = false := beq_eq_false_iff_ne.2 h3
  go_enter Try.func75, Try.ntmps75
  go_wp2
  go_ret
  exact ⟨rfl, rfl⟩
def lkv (v e x : Int) : List Value := [.int .i64 v, .int .i64 e, .int .i64 x]
theorem RowV.lk {w : World} {g : Nat} {v e x : Int} (h : RowV w g (lkv v e x)) : w.cell? ⟨g, 0, none⟩ = some (.int .i64 v) ∧ w.cell? ⟨g, 1, none⟩ = some (.int .i64 e) ∧ w.cell? ⟨g, 2, none⟩ = some (.int .i64 x) := ⟨h.cell (k := 0) rfl, h.cell (k := 1) rfl, h.cell (k := 2) rfl⟩
theorem lkv_ne (v e x : Int) : lkv v e x ≠ [] := by simp [lkv]
def linkB (v e x : Int) : Bool := verB v && (timB e && verB x)
set_option maxHeartbeats 1000000 in
theorem specLink (v e x : Int) (w : World) : Calls Try.prog 76 #[.agg #[.int .i64 v, .int .i64 e, .int .i64 x]] w fun r w' => r = .returned (.bool (linkB v e x)) ∧ Below w.heap.size w w' := by
  have hV : ∀ w0, Calls Try.prog 57 #[.int .i64 v] w0 fun r w' => r = .returned (.bool (verB v)) ∧ w0 = w' := fun w0 => specVer v w0
  have hT : ∀ w0, Calls Try.prog 58 #[.int .i64 e] w0 fun r w' => r = .returned (.bool (timB e)) ∧ w0 = w' := fun w0 => specTim e w0
  have hX : ∀ w0, Calls Try.prog 57 #[.int .i64 x] w0 fun r w' => r = .returned (.bool (verB x)) ∧ w0 = w' := fun w0 => specVer x w0
  unfold linkB
  generalize verB v = bv at *
  generalize timB e = be at *
  generalize verB x = bx at *
  cases bv <;> cases be <;> cases bx
  all_goals
    go_enter Try.func76, Try.ntmps76
    go_wp2_with (first
      | (with_reducible refine wpList_boxV (w := w) (by with_unfolding_all rfl) 49 (.tmp 0) (by with_unfolding_all rfl) (lkv v e x) (by with_unfolding_all rfl) ?_; intro w1 hA1 hB1 hS1; obtain ⟨p0, p1, p2⟩ := hA1.lk; clear hS1)
      | (go_at_call 57; with_reducible refine (hV _).mono ?_; rintro r w' ⟨rfl, rfl⟩)
      | (go_at_call 58; with_reducible refine (hT _).mono ?_; rintro r w' ⟨rfl, rfl⟩)
      | (go_at_call 57; with_reducible refine (hX _).mono ?_; rintro r w' ⟨rfl, rfl⟩))
    go_ret
    exact ⟨rfl, hB1⟩
def linkBy (k v e x : Int) : ByteArray := if (k = 2 ∨ k = 3) ∧ linkB v e x = true then ((kindB k ++ putS v) ++ putS e) ++ putS x else ⟨#[]⟩
structure KpLk (w : World) (g : Nat) (v e x : Int) (w' : World) : Prop where
  below : Below w.heap.size w w'
  row : RowV w' g (lkv v e x)
theorem KpLk.start {w w' : World} {g : Nat} {v e x : Int} (h1 : Below w.heap.size w w') (h2 : RowV w' g (lkv v e x)) : Hid (KpLk w g v e x w') := ⟨h1, h2⟩
theorem KpLk.call {w w' w2 : World} {g : Nat} {v e x : Int} (h : Hid (KpLk w g v e x w')) (hb : Below w'.heap.size w' w2) : Hid (KpLk w g v e x w2) := ⟨h.out.below.trans (hb.mono h.out.below.size), h.out.row.below hb (h.out.row.lt (lkv_ne _ _ _))⟩
theorem KpLk.drew {w w' : World} {g : Nat} {v e x : Int} (h : Hid (KpLk w g v e x w')) : Hid (KpLk w g v e x w'.drew) := ⟨h.out.below.drew, h.out.row.drew⟩
theorem KpLk.three {w w' : World} {g : Nat} {v e x : Int} (h : Hid (KpLk w g v e x w')) : w'.cell? ⟨g, 0, none⟩ = some (.int .i64 v) ∧ w'.cell? ⟨g, 1, none⟩ = some (.int .i64 e) ∧ w'.cell? ⟨g, 2, none⟩ = some (.int .i64 x) ∧ Hid (KpLk w g v e x w') := ⟨h.out.row.lk.1, h.out.row.lk.2.1, h.out.row.lk.2.2, h⟩
set_option maxRecDepth 100000 in
set_option maxHeartbeats 4000000 in
theorem specLinkB (k v e x : Int) (w : World) (hv : I64 v) (he : I64 e) (hx : I64 x) :
    Calls Try.prog 28 #[.int .i64 k, .agg #[.int .i64 v, .int .i64 e, .int .i64 x]] w fun r w' => r = .returned (.string (linkBy k v e x)) ∧ Below w.heap.size w w' := by
  have hK : ∀ w0, Calls Try.prog 75 #[.int .i64 k] w0 fun e w' => e = .returned (.string (kindB k)) ∧ w0 = w' := fun w0 => specKind k w0
  have hL : ∀ w0, Calls Try.prog 76 #[.agg #[.int .i64 v, .int .i64 e, .int .i64 x]] w0 fun r w' => r = .returned (.bool (linkB v e x)) ∧ Below w0.heap.size w0 w' := fun w0 => specLink v e x w0
  by_cases hk : k = 2 ∨ k = 3
  case neg =>
    have HF : Hid (linkBy k v e x = ⟨#[]⟩) := if_neg (fun h => hk h.1)
    have hkk : kindB k = ⟨#[]⟩ := by unfold kindB; rw [if_neg (by omega), if_neg (by omega)]
    rw [hkk] at hK
    generalize linkBy k v e x = R at *
    clear hk hkk
    go_enter Try.func28, Try.ntmps28
    go_wp2_with (first
      | (with_reducible refine wpList_boxV (w := w) (by with_unfolding_all rfl) 49 (.tmp 1) (by with_unfolding_all rfl) (lkv v e x) (by with_unfolding_all rfl) ?_; intro w1 hA1 hB1 hS1; obtain ⟨p0, p1, p2⟩ := hA1.lk; clear hS1)
      | (go_at_call 75; with_reducible refine (hK _).mono ?_; rintro r w' ⟨rfl, rfl⟩))
    go_ret
    exact ⟨by rw [HF.out]; rfl, hB1⟩
  obtain ⟨y, hy⟩ : ∃ y : UInt8, kindB k = ⟨#[y]⟩ := by
    rcases hk with rfl | rfl
    · exact ⟨80, rfl⟩
    · exact ⟨77, rfl⟩
  have dY : ((⟨#[y]⟩ : ByteArray).toList == (⟨#[]⟩ : ByteArray).toList) = false := txt_ne (fun h => absurd (show (1 : Nat) = 0 from congrArg ByteArray.size h) (by decide))
  cases hb : linkB v e x with
  | false =>
    have HF : Hid (linkBy k v e x = ⟨#[]⟩) := if_neg (fun h => by rw [hb] at h; cases h.2)
    rw [hy] at hK
    rw [hb] at hL
    generalize linkBy k v e x = R at *
    clear hk hb hy
    go_enter Try.func28, Try.ntmps28
    go_wp2_with (first
      | (with_reducible refine wpList_boxV (w := w) (by with_unfolding_all rfl) 49 (.tmp 1) (by with_unfolding_all rfl) (lkv v e x) (by with_unfolding_all rfl) ?_; intro w1 hA1 hB1 hS1; obtain ⟨p0, p1, p2⟩ := hA1.lk; clear hS1)
      | (go_at_call 75; with_reducible refine (hK _).mono ?_; rintro r w' ⟨rfl, rfl⟩)
      | (go_at_call 76; with_reducible refine (hL _).mono ?_; rintro r w2 ⟨rfl, hB2⟩))
    go_ret
    exact ⟨by rw [HF.out]; rfl, hB1.trans (hB2.mono hB1.size)⟩
  | true =>
  have HF : Hid (linkBy k v e x = ((⟨#[y]⟩ ++ putS v) ++ putS e) ++ putS x) := by show _ = _; unfold linkBy; rw [if_pos ⟨hk, hb⟩, hy]
  rw [hy] at hK
  rw [hb] at hL
  generalize linkBy k v e x = R at *
  clear hk hb hy
  have hPv : ∀ w0, Calls Try.prog 65 #[.int .i64 v] w0 fun r w' => r = .returned (.string (putS v)) ∧ Below w0.heap.size w0 w' := fun w0 => specPut v w0 hv
  have hPe : ∀ w0, Calls Try.prog 65 #[.int .i64 e] w0 fun r w' => r = .returned (.string (putS e)) ∧ Below w0.heap.size w0 w' := fun w0 => specPut e w0 he
  have hPx : ∀ w0, Calls Try.prog 65 #[.int .i64 x] w0 fun r w' => r = .returned (.string (putS x)) ∧ Below w0.heap.size w0 w' := fun w0 => specPut x w0 hx
  have hz1 := putS_size v
  have hz2 := putS_size e
  have hz3 := putS_size x
  obtain ⟨X, hX⟩ : ∃ X, (⟨#[y]⟩ : ByteArray) ++ putS v = X := ⟨_, rfl⟩
  have hXs : X.size ≤ 11 := by rw [← hX, ByteArray.size_append]; show 1 + _ ≤ _; omega
  obtain ⟨Y, hY⟩ : ∃ Y, X ++ putS e = Y := ⟨_, rfl⟩
  have hYs : Y.size ≤ 21 := by rw [← hY, ByteArray.size_append]; omega
  rw [hX, hY] at HF
  generalize putS v = pv at *
  generalize putS e = pe at *
  generalize putS x = px at *
  have y1 : ¬ 9223372036854775807 < 1 + pv.size := by omega
  have y2 : ¬ 9223372036854775807 < X.size + pe.size := by omega
  have y3 : ¬ 9223372036854775807 < Y.size + px.size := by omega
  go_enter Try.func28, Try.ntmps28
  go_wp2_with (first
    | (with_reducible refine wpList_boxV (w := w) (by with_unfolding_all rfl) 49 (.tmp 1) (by with_unfolding_all rfl) (lkv v e x) (by with_unfolding_all rfl) ?_; intro w1 hA1 hB1 hS1; obtain ⟨p0, p1, p2⟩ := hA1.lk; clear hS1)
    | (go_at_call 75; with_reducible refine (hK _).mono ?_; rintro r w' ⟨rfl, rfl⟩)
    | (go_at_call 76; with_reducible refine (hL _).mono ?_; rintro r w2 ⟨rfl, hB2⟩; have HS1 := KpLk.start hB1 hA1; have HS2 := KpLk.call HS1 hB2))
  have HS : Hid (KpLk w w.heap.size v e x w2.drew) := KpLk.drew HS2
  clear HS2 p0 p1 p2 hA1 hB1 hB2 hL
  go_region_held3 (fun w' => w'.cell? ⟨w.heap.size, 0, none⟩ = some (.int .i64 v) ∧ w'.cell? ⟨w.heap.size, 1, none⟩ = some (.int .i64 e) ∧ w'.cell? ⟨w.heap.size, 2, none⟩ = some (.int .i64 x) ∧ Hid (KpLk w w.heap.size v e x w'))
    (first | exact KpLk.three HS | exact KpLk.three (KpLk.call HS h6) | exact KpLk.three (KpLk.call (KpLk.call HS h6) h7) | exact KpLk.three (KpLk.call (KpLk.call (KpLk.call HS h6) h7) h8))
    (first
      | (go_at_call 75; with_reducible refine (hK _).mono ?_; rintro r w' ⟨rfl, rfl⟩)
      | (go_at_call 65; with_reducible refine (hPv _).mono ?_; rintro r w6 ⟨rfl, h6⟩)
      | (go_at_call 65; with_reducible refine (hPe _).mono ?_; rintro r w7 ⟨rfl, h7⟩)
      | (go_at_call 65; with_reducible refine (hPx _).mono ?_; rintro r w8 ⟨rfl, h8⟩))
  all_goals
    have HS8 := KpLk.call (KpLk.call (KpLk.call HS h6) h7) h8
    go_wp2_with fail
    go_ret
    exact ⟨by rw [HF.out]; rfl, HS8.out.below⟩
end Go.Proofs.Ytnlalnkoggkdfaa
