/- The program's cursor: bytes, pass. -/
import Derived.Test.YtmahpmjkejnkfaaCur
import Derived.Test.YtmahpmjkejnkfaaSRow
namespace Go.Proofs.Ytmahpmjkejnkfaa
open Go.RowKit
set_option linter.unusedVariables false

structure KpCu (g : Nat) (l : List Value) (w w' : World) : Prop where
  only : Only g w w'
  row : RowV w' g l
theorem KpCu.start {g : Nat} {l : List Value} {w w' : World} (h : Only g w w') (hr : RowV w' g l) : Hid (KpCu g l w w') := ⟨h, hr⟩
theorem KpCu.drew {g : Nat} {l : List Value} {w w' : World} (h : Hid (KpCu g l w w')) : Hid (KpCu g l w w'.drew) := ⟨h.out.only.drew, h.out.row.drew⟩
theorem KpCu.call {g : Nat} {l : List Value} {w w' w2 : World} (h : Hid (KpCu g l w w')) (hl : l ≠ []) (hb : Below w'.heap.size w' w2) : Hid (KpCu g l w w2) := ⟨h.out.only.trans (Only.of hb (Nat.le_of_lt (h.out.row.lt hl))), h.out.row.below hb (h.out.row.lt hl)⟩
theorem KpCu.two {g : Nat} {t : ByteArray} {p : Int} {w w' : World} (h : Hid (KpCu g (cuv t p) w w')) : w'.cell? ⟨g, 0, none⟩ = some (.string t) ∧ w'.cell? ⟨g, 1, none⟩ = some (.int .i64 p) ∧ Hid (KpCu g (cuv t p) w w') := ⟨h.out.row.cu.1, h.out.row.cu.2, h⟩
set_option maxRecDepth 100000 in
set_option maxHeartbeats 1000000 in
theorem bytesYes (g b m q : Nat) (t : ByteArray) (w : World) (hs : t.size ≤ maxLen) (hq : b + m = q) (hm : q ≤ t.size) (h : RowV w g (cuv t b)) :
    Calls Try.prog 95 #[.pointer (some ⟨g, 0, none⟩), .int .i64 (m : Int)] w fun e w' => e = .returned (.string (t.extract b q)) ∧ RowV w' g (cuv t q) ∧ Only g w w' := by
  unfold maxLen at hs
  have hM : ∀ w0, Calls Try.prog 75 #[.pointer (some ⟨g, 0, none⟩), .bool true] w0 fun e w' => e = .returned (.tuple #[]) ∧ w0 = w' := fun w0 => mustYes _ w0
  obtain ⟨x, hx⟩ : ∃ x, t.extract b q = x := ⟨_, rfl⟩
  have hsl : ∀ w0 : World, (Instr.slice 9 (.string t) (some (.int .i64 (b : Int))) (some (.int .i64 (q : Int))) none).run Try.prog w0 = .ok (.string x) w0 := by
    intro w0
    rw [run_slice_string_if w0 9 t .i64 .i64 b q Try.underlying9, if_pos ⟨by omega, by omega⟩, if_pos ⟨by omega, by omega⟩, ← hx]
    simp
  have hO : ∀ w0, Calls Try.prog 119 #[.string x] w0 fun e w' => e = .returned (.string x) ∧ Below w0.heap.size w0 w' := fun w0 => ownText_any x w0
  obtain ⟨c0, c1⟩ := h.cu
  have HR : Hid (RowV w g (cuv t b)) := h
  have d1 : decide ((m : Int) ≤ (t.size : Int) - (b : Int)) = true := decide_eq_true (by omega)
  have e1 : (b : Int) + (m : Int) = (q : Int) := by omega
  rw [hx]
  clear h hx
  go_enter Try.func95, Try.ntmps95
  go_wp2_with (first
    | (go_at_call 75; with_reducible refine (hM _).mono ?_; rintro e w' ⟨rfl, rfl⟩)
    | (with_reducible refine wpList_cellH (w := w) (by with_unfolding_all rfl) 2 (.tmp 28) (.tmp 26) (by with_unfolding_all rfl) g 1 (cuv t b) (cuv t q) (.int .i64 (q : Int)) (by with_unfolding_all rfl) (by with_unfolding_all rfl) rfl Try.siz1I HR.out (by simp [cuv]) (by with_unfolding_all rfl) ?_; intro w2 hA2 hB2 hF2 hS2; have HK2 := KpCu.start (Only.set hB2 hF2 hS2) hA2))
  have HKd := KpCu.drew HK2
  clear HK2 hA2 hB2 hF2 hS2 c0 c1 HR d1
  go_region_held3 (fun w' => w'.cell? ⟨g, 0, none⟩ = some (.string t) ∧ w'.cell? ⟨g, 1, none⟩ = some (.int .i64 (q : Int)) ∧ Hid (KpCu g (cuv t q) w w'))
    (first | exact KpCu.two HKd | exact KpCu.two (KpCu.call HKd (cuv_ne _ _) h8))
    (first
      | (go_at_call 119; with_reducible refine (hO _).mono ?_; rintro r w8 ⟨rfl, h8⟩))
  all_goals
    have HK9 := KpCu.call HKd (cuv_ne _ _) h8
    go_wp2_with fail
    go_ret
    exact ⟨rfl, HK9.out.row, HK9.out.only⟩
set_option maxRecDepth 100000 in
set_option maxHeartbeats 1000000 in
theorem bytesNo (g b m : Nat) (t : ByteArray) (w : World) (hs : t.size ≤ maxLen) (hmm : m ≤ 1000000) (hbt : b ≤ t.size) (hm : t.size < b + m) (h : RowV w g (cuv t b)) :
    Calls Try.prog 95 #[.pointer (some ⟨g, 0, none⟩), .int .i64 (m : Int)] w fun e w' => e = .panicked [{ v := faultV, recovered := false }] ∧ Only g w w' := by
  unfold maxLen at hs
  have hM : ∀ w0, Calls Try.prog 75 #[.pointer (some ⟨g, 0, none⟩), .bool false] w0 fun e w' => e = .panicked [{ v := faultV, recovered := false }] ∧ w0 = w' := fun w0 => mustNo _ w0
  obtain ⟨c0, c1⟩ := h.cu
  have d1 : decide ((m : Int) ≤ (t.size : Int) - (b : Int)) = false := decide_eq_false (by omega)
  clear h
  go_enter Try.func95, Try.ntmps95
  go_wp2_with (first
    | (go_at_call 75; with_reducible refine (hM _).mono ?_; rintro e w' ⟨rfl, rfl⟩))
  exact ⟨rfl, rfl, Only.refl _ _⟩
def FirstB (t : ByteArray) (y : UInt8) : Prop := 1 ≤ t.size ∧ t.extract 0 1 = ⟨#[y]⟩
theorem mark_ne (y : UInt8) : ((⟨#[y]⟩ : ByteArray).toList == (⟨#[]⟩ : ByteArray).toList) = false := txt_ne (fun h => absurd (show (1 : Nat) = 0 from congrArg ByteArray.size h) (by decide))
set_option maxRecDepth 100000 in
theorem passNone (x : Option Addr) (w : World) :
    Calls Try.prog 74 #[.pointer x, .string ⟨#[]⟩] w fun e w' => e = .panicked [{ v := faultV, recovered := false }] ∧ w = w' := by
  have hM : ∀ w0, Calls Try.prog 75 #[.pointer x, .bool false] w0 fun e w' => e = .panicked [{ v := faultV, recovered := false }] ∧ w0 = w' := fun w0 => mustNo _ w0
  go_enter Try.func74, Try.ntmps74
  go_wp2_with (first
    | (go_at_call 75; with_reducible refine (hM _).mono ?_; rintro e w' ⟨rfl, rfl⟩))
  exact ⟨rfl, rfl, rfl⟩
set_option maxRecDepth 100000 in
theorem passYes (g : Nat) (t : ByteArray) (y : UInt8) (w : World) (hs : t.size ≤ maxLen) (hf : FirstB t y) (h : RowV w g (cuv t 0)) :
    Calls Try.prog 74 #[.pointer (some ⟨g, 0, none⟩), .string ⟨#[y]⟩] w fun e w' => e = .returned (.tuple #[]) ∧ RowV w' g (cuv t 1) ∧ Only g w w' := by
  have hM : ∀ w0, Calls Try.prog 75 #[.pointer (some ⟨g, 0, none⟩), .bool true] w0 fun e w' => e = .returned (.tuple #[]) ∧ w0 = w' := fun w0 => mustYes _ w0
  have hB : Calls Try.prog 95 #[.pointer (some ⟨g, 0, none⟩), .int .i64 1] w fun e w' => e = .returned (.string ⟨#[y]⟩) ∧ RowV w' g (cuv t 1) ∧ Only g w w' := by
    have := bytesYes g 0 1 1 t w hs rfl hf.1 h
    rw [hf.2] at this
    exact this
  have HB : Hid (Calls Try.prog 95 #[.pointer (some ⟨g, 0, none⟩), .int .i64 1] w fun e w' => e = .returned (.string ⟨#[y]⟩) ∧ RowV w' g (cuv t 1) ∧ Only g w w') := hB
  have e1 := mark_ne y
  have e2 := txt_eq ⟨#[y]⟩
  clear hB hf h
  obtain ⟨M, hMk⟩ : ∃ M : ByteArray, M = ⟨#[y]⟩ := ⟨_, rfl⟩
  have e3 : M.size = 1 := by rw [hMk]; rfl
  have e4 : M.toList.isEmpty = false := by rw [hMk, ByteArray.toList_eq]; rfl
  rw [← hMk] at HB e1 e2 ⊢
  clear hMk
  go_enter Try.func74, Try.ntmps74
  go_wp2_with (first
    | (go_at_call 95; refine Calls.mono HB.out ?_; rintro e w1 ⟨rfl, hR1, hO1⟩)
    | (go_at_call 75; with_reducible refine (hM _).mono ?_; rintro e w' ⟨rfl, rfl⟩))
  first | go_end0 | refine bodyPost_ret (results_none rfl _ _ _) rfl ?_
  exact ⟨rfl, hR1, hO1⟩
set_option maxRecDepth 100000 in
theorem passNo (g : Nat) (t : ByteArray) (y : UInt8) (w : World) (hs : t.size ≤ maxLen) (hf : ¬ FirstB t y) (h : RowV w g (cuv t 0)) :
    Calls Try.prog 74 #[.pointer (some ⟨g, 0, none⟩), .string ⟨#[y]⟩] w fun e w' => e = .panicked [{ v := faultV, recovered := false }] ∧ Only g w w' := by
  have hM : ∀ w0, Calls Try.prog 75 #[.pointer (some ⟨g, 0, none⟩), .bool false] w0 fun e w' => e = .panicked [{ v := faultV, recovered := false }] ∧ w0 = w' := fun w0 => mustNo _ w0
  have e1 := mark_ne y
  by_cases h1 : 1 ≤ t.size
  · obtain ⟨x, hx⟩ : ∃ x, t.extract 0 1 = x := ⟨_, rfl⟩
    have HB : Hid (Calls Try.prog 95 #[.pointer (some ⟨g, 0, none⟩), .int .i64 1] w fun e w' => e = .returned (.string x) ∧ RowV w' g (cuv t 1) ∧ Only g w w') := by
      have := bytesYes g 0 1 1 t w hs rfl h1 h
      rw [hx] at this
      exact this
    have e2 : (x.toList == (⟨#[y]⟩ : ByteArray).toList) = false := txt_ne (fun e => hf ⟨h1, by rw [hx]; exact e⟩)
    clear hf h hx
    obtain ⟨M, hMk⟩ : ∃ M : ByteArray, M = ⟨#[y]⟩ := ⟨_, rfl⟩
    have e3 : M.size = 1 := by rw [hMk]; rfl
    have e4 : M.toList.isEmpty = false := by rw [hMk, ByteArray.toList_eq]; rfl
    rw [← hMk] at e1 e2 ⊢
    clear hMk
    go_enter Try.func74, Try.ntmps74
    go_wp2_with (first
      | (go_at_call 95; refine Calls.mono HB.out ?_; rintro e w1 ⟨rfl, hR1, hO1⟩)
      | (go_at_call 75; with_reducible refine (hM _).mono ?_; rintro e w' ⟨rfl, rfl⟩))
    exact ⟨rfl, rfl, hO1⟩
  · have HB : Hid (Calls Try.prog 95 #[.pointer (some ⟨g, 0, none⟩), .int .i64 1] w fun e w' => e = .panicked [{ v := faultV, recovered := false }] ∧ Only g w w') := bytesNo g 0 1 t w hs (by omega) (Nat.zero_le _) (by omega) h
    clear hf h
    obtain ⟨M, hMk⟩ : ∃ M : ByteArray, M = ⟨#[y]⟩ := ⟨_, rfl⟩
    have e3 : M.size = 1 := by rw [hMk]; rfl
    have e4 : M.toList.isEmpty = false := by rw [hMk, ByteArray.toList_eq]; rfl
    rw [← hMk] at e1 ⊢
    clear hMk
    go_enter Try.func74, Try.ntmps74
    go_wp2_with (first
      | (go_at_call 95; refine Calls.mono HB.out ?_; rintro e w1 ⟨rfl, hO1⟩))
    exact ⟨rfl, rfl, hO1⟩
end Go.Proofs.Ytmahpmjkejnkfaa
