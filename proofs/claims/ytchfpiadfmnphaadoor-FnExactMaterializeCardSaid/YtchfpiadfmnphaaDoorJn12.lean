/- The program's cursor: must, number, bytes, pass. The program's cursor: bytes, pass. What stands while a reader goes on: its own cells, and the variables of the call; two laws for regions that draw their order. -/
import Derived.Test.YtchfpiadfmnphaaDoorJn11
import Derived.Test.YtchfpiadfmnphaaDoorJn6
import Derived.Test.YtchfpiadfmnphaaDoorJn10
namespace Go.Proofs.YtchfpiadfmnphaaDoor
open Go.RowKit
set_option linter.unusedVariables false

abbrev faultV : Value := .iface 149 (.agg #[.int .i64 3])
theorem mustYes (x : Option Addr) (w : World) : Calls Tryd.prog 78 #[.pointer x, .bool true] w fun e w' => e = .returned (.tuple #[]) ∧ w = w' := by
  go_enter Tryd.func78, Tryd.ntmps78
  go_wp2
  first | go_end0 | refine bodyPost_ret (results_none rfl _ _ _) rfl ?_
  exact ⟨rfl, rfl⟩
theorem mustNo (x : Option Addr) (w : World) : Calls Tryd.prog 78 #[.pointer x, .bool false] w fun e w' => e = .panicked [{ v := faultV, recovered := false }] ∧ w = w' := by
  go_enter Tryd.func78, Tryd.ntmps78
  go_wp2
  exact ⟨rfl, rfl, rfl⟩
theorem rv_no {s : ByteArray} {p c : Int} (hc : c ≠ 0) (h : getN s p = ⟨0, 0, c⟩) : rv (getN s p) = .tuple #[.int .i64 0, .int .i64 0, .iface 149 (.agg #[.int .i64 c])] := rv_bad h hc
set_option maxRecDepth 100000 in
set_option maxHeartbeats 1000000 in
theorem numberYes (g b : Nat) (t : ByteArray) (p n : Int) (w : World) (hp : I64 p) (hs : t.size ≤ maxLen) (hg : getN t p = ⟨n, b, 0⟩) (h : RowV w g (cuv t p)) :
    Calls Tryd.prog 82 #[.pointer (some ⟨g, 0, none⟩)] w fun e w' => e = .returned (.int .i64 n) ∧ RowV w' g (cuv t b) ∧ Only g w w' := by
  have hN : ∀ w0, Calls Tryd.prog 103 #[.string t, .int .i64 p] w0 fun e w' => e = .returned (.tuple #[.int .i64 n, .int .i64 (b : Int), .nilIface]) ∧ w' = w0 := fun w0 => by
    have := readNum_any t p w0 hs hp
    rw [rv_good hg] at this
    exact this
  have hM : ∀ w0, Calls Tryd.prog 78 #[.pointer (some ⟨g, 0, none⟩), .bool true] w0 fun e w' => e = .returned (.tuple #[]) ∧ w0 = w' := fun w0 => mustYes _ w0
  obtain ⟨c0, c1⟩ := h.cu
  have HR : Hid (RowV w g (cuv t p)) := h
  clear h hg
  go_enter Tryd.func82, Tryd.ntmps82
  go_wp2_with fail
  go_quiet (first | (go_at_call 103; exact Calls.quiet_of_same (hN _)))
  have R1 : RowV (w.drewN nq) g (cuv t p) := HR.out.drewN _
  have O1 : Only g w (w.drewN nq) := ⟨belowN (Below.refl _ _) _, fun _ _ _ => rfl, Nat.le_refl _⟩
  clear HR c0 c1
  generalize w.drewN nq = w1 at *
  go_wp2_with (first
    | (go_at_call 78; with_reducible refine (hM _).mono ?_; rintro e w' ⟨rfl, rfl⟩)
    | (with_reducible refine wpList_cellH (w := w1) (by with_unfolding_all rfl) 2 (.tmp 26) (.tmp 24) (by with_unfolding_all rfl) g 1 (cuv t p) (cuv t b) (.int .i64 (b : Int)) (by with_unfolding_all rfl) (by with_unfolding_all rfl) rfl Tryd.siz1I R1 (by simp [cuv]) (by with_unfolding_all rfl) ?_; intro w2 hA2 hB2 hF2 hS2))
  go_ret
  exact ⟨rfl, hA2, O1.trans (Only.set hB2 hF2 hS2)⟩
set_option maxRecDepth 100000 in
set_option maxHeartbeats 1000000 in
theorem numberNo (g : Nat) (t : ByteArray) (p c : Int) (w : World) (hp : I64 p) (hs : t.size ≤ maxLen) (hc : c ≠ 0) (hg : getN t p = ⟨0, 0, c⟩) (h : RowV w g (cuv t p)) :
    Calls Tryd.prog 82 #[.pointer (some ⟨g, 0, none⟩)] w fun e w' => e = .panicked [{ v := faultV, recovered := false }] ∧ Only g w w' := by
  have hN : ∀ w0, Calls Tryd.prog 103 #[.string t, .int .i64 p] w0 fun e w' => e = .returned (.tuple #[.int .i64 0, .int .i64 0, .iface 149 (.agg #[.int .i64 c])]) ∧ w' = w0 := fun w0 => by
    have := readNum_any t p w0 hs hp
    rw [rv_no hc hg] at this
    exact this
  have hM : ∀ w0, Calls Tryd.prog 78 #[.pointer (some ⟨g, 0, none⟩), .bool false] w0 fun e w' => e = .panicked [{ v := faultV, recovered := false }] ∧ w0 = w' := fun w0 => mustNo _ w0
  obtain ⟨c0, c1⟩ := h.cu
  clear h hg hc
  go_enter Tryd.func82, Tryd.ntmps82
  go_wp2_with fail
  go_quiet (first | (go_at_call 103; exact Calls.quiet_of_same (hN _)))
  have O1 : Only g w (w.drewN nq) := ⟨belowN (Below.refl _ _) _, fun _ _ _ => rfl, Nat.le_refl _⟩
  clear c0 c1
  generalize w.drewN nq = w1 at *
  go_wp2_with (first
    | (go_at_call 78; with_reducible refine (hM _).mono ?_; rintro e w' ⟨rfl, rfl⟩))
  exact ⟨rfl, rfl, O1⟩
end Go.Proofs.YtchfpiadfmnphaaDoor
namespace Go.Proofs.YtchfpiadfmnphaaDoor
open Go.RowKit
set_option linter.unusedVariables false

structure KpCu (g : Nat) (l : List Value) (w w' : World) : Prop where
  only : Only g w w'
  row : RowV w' g l
theorem KpCu.start {g : Nat} {l : List Value} {w w' : World} (h : Only g w w') (hr : RowV w' g l) : Hid (KpCu g l w w') := ⟨h, hr⟩
theorem KpCu.drew {g : Nat} {l : List Value} {w w' : World} (h : Hid (KpCu g l w w')) : Hid (KpCu g l w w'.drew) := ⟨h.out.only.drew, h.out.row.drew⟩
theorem KpCu.call {g : Nat} {l : List Value} {w w' w2 : World} (h : Hid (KpCu g l w w')) (hl : l ≠ []) (hb : Below w'.heap.size w' w2) : Hid (KpCu g l w w2) := ⟨h.out.only.trans (Only.of hb (Nat.le_of_lt (h.out.row.lt hl))), h.out.row.below hb (h.out.row.lt hl)⟩
theorem KpCu.two {g : Nat} {t : ByteArray} {p : Int} {w w' : World} (h : Hid (KpCu g (cuv t p) w w')) : w'.cell? ⟨g, 0, none⟩ = some (.string t) ∧ w'.cell? ⟨g, 1, none⟩ = some (.int .i64 p) ∧ Hid (KpCu g (cuv t p) w w') := ⟨h.out.row.cu.1, h.out.row.cu.2, h⟩
set_option maxRecDepth 100000 in
set_option maxHeartbeats 1000000 in
theorem bytesYes (g b m q : Nat) (t : ByteArray) (w : World) (hs : t.size ≤ maxLen) (hq : b + m = q) (hm : q ≤ t.size) (h : RowV w g (cuv t b)) :
    Calls Tryd.prog 81 #[.pointer (some ⟨g, 0, none⟩), .int .i64 (m : Int)] w fun e w' => e = .returned (.string (t.extract b q)) ∧ RowV w' g (cuv t q) ∧ Only g w w' := by
  unfold maxLen at hs
  have hM : ∀ w0, Calls Tryd.prog 78 #[.pointer (some ⟨g, 0, none⟩), .bool true] w0 fun e w' => e = .returned (.tuple #[]) ∧ w0 = w' := fun w0 => mustYes _ w0
  obtain ⟨x, hx⟩ : ∃ x, t.extract b q = x := ⟨_, rfl⟩
  have hsl : ∀ w0 : World, (Instr.slice 9 (.string t) (some (.int .i64 (b : Int))) (some (.int .i64 (q : Int))) none).run Tryd.prog w0 = .ok (.string x) w0 := by
    intro w0
    rw [run_slice_string_if w0 9 t .i64 .i64 b q Tryd.underlying9, if_pos ⟨by omega, by omega⟩, if_pos ⟨by omega, by omega⟩, ← hx]
    simp
  have hO : ∀ w0, Calls Tryd.prog 32 #[.string x] w0 fun e w' => e = .returned (.string x) ∧ Below w0.heap.size w0 w' := fun w0 => ownText_any x w0
  obtain ⟨c0, c1⟩ := h.cu
  have HR : Hid (RowV w g (cuv t b)) := h
  have d1 : decide ((m : Int) ≤ (t.size : Int) - (b : Int)) = true := decide_eq_true (by omega)
  have e1 : (b : Int) + (m : Int) = (q : Int) := by omega
  rw [hx]
  clear h hx
  go_enter Tryd.func81, Tryd.ntmps81
  go_wp2_with (first
    | (go_at_call 78; with_reducible refine (hM _).mono ?_; rintro e w' ⟨rfl, rfl⟩)
    | (with_reducible refine wpList_cellH (w := w) (by with_unfolding_all rfl) 2 (.tmp 28) (.tmp 26) (by with_unfolding_all rfl) g 1 (cuv t b) (cuv t q) (.int .i64 (q : Int)) (by with_unfolding_all rfl) (by with_unfolding_all rfl) rfl Tryd.siz1I HR.out (by simp [cuv]) (by with_unfolding_all rfl) ?_; intro w2 hA2 hB2 hF2 hS2; have HK2 := KpCu.start (Only.set hB2 hF2 hS2) hA2))
  have HKd := KpCu.drew HK2
  clear HK2 hA2 hB2 hF2 hS2 c0 c1 HR d1
  go_region_held3 (fun w' => w'.cell? ⟨g, 0, none⟩ = some (.string t) ∧ w'.cell? ⟨g, 1, none⟩ = some (.int .i64 (q : Int)) ∧ Hid (KpCu g (cuv t q) w w'))
    (first | exact KpCu.two HKd | exact KpCu.two (KpCu.call HKd (cuv_ne _ _) h8))
    (first
      | (go_at_call 32; with_reducible refine (hO _).mono ?_; rintro r w8 ⟨rfl, h8⟩))
  all_goals
    have HK9 := KpCu.call HKd (cuv_ne _ _) h8
    go_wp2_with fail
    go_ret
    exact ⟨rfl, HK9.out.row, HK9.out.only⟩
set_option maxRecDepth 100000 in
set_option maxHeartbeats 1000000 in
theorem bytesNo (g b m : Nat) (t : ByteArray) (w : World) (hs : t.size ≤ maxLen) (hmm : m ≤ 1000000) (hbt : b ≤ t.size) (hm : t.size < b + m) (h : RowV w g (cuv t b)) :
    Calls Tryd.prog 81 #[.pointer (some ⟨g, 0, none⟩), .int .i64 (m : Int)] w fun e w' => e = .panicked [{ v := faultV, recovered := false }] ∧ Only g w w' := by
  unfold maxLen at hs
  have hM : ∀ w0, Calls Tryd.prog 78 #[.pointer (some ⟨g, 0, none⟩), .bool false] w0 fun e w' => e = .panicked [{ v := faultV, recovered := false }] ∧ w0 = w' := fun w0 => mustNo _ w0
  obtain ⟨c0, c1⟩ := h.cu
  have d1 : decide ((m : Int) ≤ (t.size : Int) - (b : Int)) = false := decide_eq_false (by omega)
  clear h
  go_enter Tryd.func81, Tryd.ntmps81
  go_wp2_with (first
    | (go_at_call 78; with_reducible refine (hM _).mono ?_; rintro e w' ⟨rfl, rfl⟩))
  exact ⟨rfl, rfl, Only.refl _ _⟩
def FirstB (t : ByteArray) (y : UInt8) : Prop := 1 ≤ t.size ∧ t.extract 0 1 = ⟨#[y]⟩
theorem mark_ne (y : UInt8) : ((⟨#[y]⟩ : ByteArray).toList == (⟨#[]⟩ : ByteArray).toList) = false := txt_ne (fun h => absurd (show (1 : Nat) = 0 from congrArg ByteArray.size h) (by decide))
set_option maxRecDepth 100000 in
theorem passNone (x : Option Addr) (w : World) :
    Calls Tryd.prog 77 #[.pointer x, .string ⟨#[]⟩] w fun e w' => e = .panicked [{ v := faultV, recovered := false }] ∧ w = w' := by
  have hM : ∀ w0, Calls Tryd.prog 78 #[.pointer x, .bool false] w0 fun e w' => e = .panicked [{ v := faultV, recovered := false }] ∧ w0 = w' := fun w0 => mustNo _ w0
  go_enter Tryd.func77, Tryd.ntmps77
  go_wp2_with (first
    | (go_at_call 78; with_reducible refine (hM _).mono ?_; rintro e w' ⟨rfl, rfl⟩))
  exact ⟨rfl, rfl, rfl⟩
set_option maxRecDepth 100000 in
theorem passYes (g : Nat) (t : ByteArray) (y : UInt8) (w : World) (hs : t.size ≤ maxLen) (hf : FirstB t y) (h : RowV w g (cuv t 0)) :
    Calls Tryd.prog 77 #[.pointer (some ⟨g, 0, none⟩), .string ⟨#[y]⟩] w fun e w' => e = .returned (.tuple #[]) ∧ RowV w' g (cuv t 1) ∧ Only g w w' := by
  have hM : ∀ w0, Calls Tryd.prog 78 #[.pointer (some ⟨g, 0, none⟩), .bool true] w0 fun e w' => e = .returned (.tuple #[]) ∧ w0 = w' := fun w0 => mustYes _ w0
  have hB : Calls Tryd.prog 81 #[.pointer (some ⟨g, 0, none⟩), .int .i64 1] w fun e w' => e = .returned (.string ⟨#[y]⟩) ∧ RowV w' g (cuv t 1) ∧ Only g w w' := by
    have := bytesYes g 0 1 1 t w hs rfl hf.1 h
    rw [hf.2] at this
    exact this
  have HB : Hid (Calls Tryd.prog 81 #[.pointer (some ⟨g, 0, none⟩), .int .i64 1] w fun e w' => e = .returned (.string ⟨#[y]⟩) ∧ RowV w' g (cuv t 1) ∧ Only g w w') := hB
  have e1 := mark_ne y
  have e2 := txt_eq ⟨#[y]⟩
  clear hB hf h
  obtain ⟨M, hMk⟩ : ∃ M : ByteArray, M = ⟨#[y]⟩ := ⟨_, rfl⟩
  have e3 : M.size = 1 := by rw [hMk]; rfl
  have e4 : M.toList.isEmpty = false := by rw [hMk, ByteArray.toList_eq]; rfl
  rw [← hMk] at HB e1 e2 ⊢
  clear hMk
  go_enter Tryd.func77, Tryd.ntmps77
  go_wp2_with (first
    | (go_at_call 81; refine Calls.mono HB.out ?_; rintro e w1 ⟨rfl, hR1, hO1⟩)
    | (go_at_call 78; with_reducible refine (hM _).mono ?_; rintro e w' ⟨rfl, rfl⟩))
  first | go_end0 | refine bodyPost_ret (results_none rfl _ _ _) rfl ?_
  exact ⟨rfl, hR1, hO1⟩
set_option maxRecDepth 100000 in
theorem passNo (g : Nat) (t : ByteArray) (y : UInt8) (w : World) (hs : t.size ≤ maxLen) (hf : ¬ FirstB t y) (h : RowV w g (cuv t 0)) :
    Calls Tryd.prog 77 #[.pointer (some ⟨g, 0, none⟩), .string ⟨#[y]⟩] w fun e w' => e = .panicked [{ v := faultV, recovered := false }] ∧ Only g w w' := by
  have hM : ∀ w0, Calls Tryd.prog 78 #[.pointer (some ⟨g, 0, none⟩), .bool false] w0 fun e w' => e = .panicked [{ v := faultV, recovered := false }] ∧ w0 = w' := fun w0 => mustNo _ w0
  have e1 := mark_ne y
  by_cases h1 : 1 ≤ t.size
  · obtain ⟨x, hx⟩ : ∃ x, t.extract 0 1 = x := ⟨_, rfl⟩
    have HB : Hid (Calls Tryd.prog 81 #[.pointer (some ⟨g, 0, none⟩), .int .i64 1] w fun e w' => e = .returned (.string x) ∧ RowV w' g (cuv t 1) ∧ Only g w w') := by
      have := bytesYes g 0 1 1 t w hs rfl h1 h
      rw [hx] at this
      exact this
    have e2 : (x.toList == (⟨#[y]⟩ : ByteArray).toList) = false := txt_ne (fun e => hf ⟨h1, by rw [hx]; exact e⟩)
    clear hf h hx
    obtain ⟨M, hMk⟩ : ∃ M : ByteArray, M = ⟨#[y]⟩ := ⟨_, rfl⟩
    have e3 : M.size = 1 := by rw [hMk]; rfl
    have e4 : M.toList.isEmpty = false := by rw [hMk, ByteArray.toList_eq]; rfl
    rw [← hMk] at e1 e2 ⊢
    clear hMk
    go_enter Tryd.func77, Tryd.ntmps77
    go_wp2_with (first
      | (go_at_call 81; refine Calls.mono HB.out ?_; rintro e w1 ⟨rfl, hR1, hO1⟩)
      | (go_at_call 78; with_reducible refine (hM _).mono ?_; rintro e w' ⟨rfl, rfl⟩))
    exact ⟨rfl, rfl, hO1⟩
  · have HB : Hid (Calls Tryd.prog 81 #[.pointer (some ⟨g, 0, none⟩), .int .i64 1] w fun e w' => e = .panicked [{ v := faultV, recovered := false }] ∧ Only g w w') := bytesNo g 0 1 t w hs (by omega) (Nat.zero_le _) (by omega) h
    clear hf h
    obtain ⟨M, hMk⟩ : ∃ M : ByteArray, M = ⟨#[y]⟩ := ⟨_, rfl⟩
    have e3 : M.size = 1 := by rw [hMk]; rfl
    have e4 : M.toList.isEmpty = false := by rw [hMk, ByteArray.toList_eq]; rfl
    rw [← hMk] at e1 ⊢
    clear hMk
    go_enter Tryd.func77, Tryd.ntmps77
    go_wp2_with (first
      | (go_at_call 81; refine Calls.mono HB.out ?_; rintro e w1 ⟨rfl, hO1⟩))
    exact ⟨rfl, rfl, hO1⟩
end Go.Proofs.YtchfpiadfmnphaaDoor
namespace Go.Proofs.YtchfpiadfmnphaaDoor
open Go.RowKit
set_option linter.unusedVariables false

theorem wp_allocV {P : Program} {o : Oper} {a : Act} {w : World} {K : Act → World → Prop} {Q : Exit → Act → World → Prop} (t : TypeId) (ho : o.op = .alloc t) (l : List Value)
    (hi : (P.info? t).map (fun i => i.zero) = some (some (.agg l.toArray)))
    (h : ∀ w', RowV w' w.heap.size l → Below w.heap.size w w' → K (a.put o.dst (.pointer (some ⟨w.heap.size, 0, none⟩))) w') : o.wp P a w K Q := by
  cases hq : P.info? t with
  | none => simp [hq] at hi
  | some i =>
    have hz : i.zero = some (.agg l.toArray) := by simpa [hq] using hi
    unfold Oper.wp execOp
    simp only [ho, Sem.run_bind, Instr.alloc, zeroValue, run_typeInfo w hq, hz, newVar, newRow, run_newObj_alloc, Sem.run_pure, Result.andThen_ok]
    exact h _ (RowV.new w _ t) ((Below.refl _ _).alloc (Nat.le_refl _) _)
theorem wp_storeV {P : Program} {o : Oper} {a : Act} {w : World} {K : Act → World → Prop} {Q : Exit → Act → World → Prop} (t : TypeId) (x y : Operand) (ho : o.op = .store t x y) (g : Nat) (l l' : List Value)
    (hx : a.eval x = .pointer (some ⟨g, 0, none⟩)) (hy : a.eval y = .agg l'.toArray) (hl : RowV w g l) (n : Nat) (hi : (P.info? t).map (·.size) = some n) (hn : l.length = n) (hn' : l'.length = n) (h1 : ∀ v ∈ l', v.oneCell' = true)
    (h : ∀ w', RowV w' g l' → Only g w w' → K (a.put o.dst undef) w') : o.wp P a w K Q := by
  subst hn
  refine wp_store_mid t x y ho g 0 l'.toArray hx hy (by simp only [List.size_toArray, hn']; exact hl.ths) (by simp only [List.size_toArray, hn']; exact hi) (by rw [Array.all_eq_true_iff_forall_mem]; intro v hv; exact h1 v (by simpa using hv)) ?_
  exact h _ (hl.put hn') (Only.set (fun B hB => Lib.below_setCells_w hB _ _ _) (fun k hk => setCells_blk g _ _ _ k hk) (setCells_size g _ 0 w))
/- The reader's row at g, and rows of the call's own. -/
structure KpM (g : Nat) (r : List Value) (rows : List (Nat × List Value)) (w w' : World) : Prop where
  only : Only g w w'
  row : RowV w' g r
  ne : r ≠ []
  lt : g < w.heap.size
  own : ∀ x ∈ rows, w.heap.size ≤ x.1 ∧ x.2 ≠ [] ∧ RowV w' x.1 x.2
theorem KpM.start {g : Nat} {r : List Value} {w : World} (h : RowV w g r) (hn : r ≠ []) : Hid (KpM g r [] w w) := ⟨Only.refl _ _, h, hn, h.lt hn, fun x hx => by cases hx⟩
theorem KpM.sz {g : Nat} {r : List Value} {rows : List (Nat × List Value)} {w w' : World} (h : Hid (KpM g r rows w w')) : w.heap.size ≤ w'.heap.size := h.out.only.size
theorem KpM.call {g : Nat} {r : List Value} {rows : List (Nat × List Value)} {w w' w2 : World} (h : Hid (KpM g r rows w w')) (hb : Below w'.heap.size w' w2) : Hid (KpM g r rows w w2) :=
  ⟨h.out.only.trans (Only.of hb (Nat.le_trans (Nat.le_of_lt h.out.lt) h.out.only.size)), h.out.row.below hb (h.out.row.lt h.out.ne), h.out.ne, h.out.lt, fun x hx => ⟨(h.out.own x hx).1, (h.out.own x hx).2.1, (h.out.own x hx).2.2.below hb ((h.out.own x hx).2.2.lt (h.out.own x hx).2.1)⟩⟩
theorem KpM.drew {g : Nat} {r : List Value} {rows : List (Nat × List Value)} {w w' : World} (h : Hid (KpM g r rows w w')) : Hid (KpM g r rows w w'.drew) := ⟨h.out.only.drew, h.out.row.drew, h.out.ne, h.out.lt, fun x hx => ⟨(h.out.own x hx).1, (h.out.own x hx).2.1, (h.out.own x hx).2.2.drew⟩⟩
theorem KpM.drewN {g : Nat} {r : List Value} {rows : List (Nat × List Value)} {w w' : World} (h : Hid (KpM g r rows w w')) (n : Nat) : Hid (KpM g r rows w (w'.drewN n)) := ⟨⟨belowN h.out.only.below n, h.out.only.blk, h.out.only.size⟩, h.out.row.drewN n, h.out.ne, h.out.lt, fun x hx => ⟨(h.out.own x hx).1, (h.out.own x hx).2.1, (h.out.own x hx).2.2.drewN n⟩⟩
/- The reader went on. -/
theorem KpM.read {g : Nat} {r r' : List Value} {rows : List (Nat × List Value)} {w w' w2 : World} (h : Hid (KpM g r rows w w')) (hr : RowV w2 g r') (hn : r' ≠ []) (ho : Only g w' w2) : Hid (KpM g r' rows w w2) :=
  ⟨h.out.only.trans ho, hr, hn, h.out.lt, fun x hx => ⟨(h.out.own x hx).1, (h.out.own x hx).2.1, ho.row (h.out.own x hx).2.2 (h.out.own x hx).2.1 (by have := (h.out.own x hx).1; have := h.out.lt; omega)⟩⟩
/- A new variable. -/
theorem KpM.new {g : Nat} {r l : List Value} {rows : List (Nat × List Value)} {w w' w2 : World} (h : Hid (KpM g r rows w w')) (hr : RowV w2 w'.heap.size l) (hn : l ≠ []) (hb : Below w'.heap.size w' w2) : Hid (KpM g r ((w'.heap.size, l) :: rows) w w2) := by
  have h2 := (KpM.call h hb).out
  refine ⟨h2.only, h2.row, h2.ne, h2.lt, fun x hx => ?_⟩
  rcases List.mem_cons.1 hx with rfl | hx
  · exact ⟨h.out.only.size, hn, hr⟩
  · exact h2.own x hx
/- The newest variable is written. -/
theorem KpM.put {g b : Nat} {r l l' : List Value} {rows : List (Nat × List Value)} {w w' w2 : World} (h : Hid (KpM g r ((b, l) :: rows) w w')) (hd : ∀ x ∈ rows, x.1 ≠ b) (hr : RowV w2 b l') (hn : l' ≠ []) (ho : Only b w' w2) : Hid (KpM g r ((b, l') :: rows) w w2) := by
  have hb := (h.out.own (b, l) (List.mem_cons_self ..)).1
  have hgb : g ≠ b := by have := h.out.lt; have : w.heap.size ≤ b := hb; omega
  have hbl : b < w'.heap.size := (h.out.own (b, l) (List.mem_cons_self ..)).2.2.lt (h.out.own (b, l) (List.mem_cons_self ..)).2.1
  refine ⟨⟨h.out.only.below.trans (ho.below.mono (by have := h.out.lt; have : w.heap.size ≤ b := hb; omega)), fun x hx hl => ?_, Nat.le_trans h.out.only.size ho.size⟩, ho.row h.out.row h.out.ne hgb, h.out.ne, h.out.lt, fun x hx => ?_⟩
  · have h1 := h.out.only.blk x hx hl
    have h2 := ho.blk x (by have : w.heap.size ≤ b := hb; omega) (Nat.lt_of_lt_of_le hl h.out.only.size)
    exact h2.trans h1
  · rcases List.mem_cons.1 hx with rfl | hx
    · exact ⟨hb, hn, hr⟩
    · have := h.out.own x (List.mem_cons_of_mem _ hx)
      exact ⟨this.1, this.2.1, ho.row this.2.2 this.2.1 (hd x hx)⟩
theorem KpM.get {g b : Nat} {r l : List Value} {rows : List (Nat × List Value)} {w w' : World} (h : Hid (KpM g r rows w w')) (hx : (b, l) ∈ rows) : RowV w' b l := (h.out.own _ hx).2.2
theorem KpM.swap {g : Nat} {r : List Value} {x y : Nat × List Value} {rows : List (Nat × List Value)} {w w' : World} (h : Hid (KpM g r (x :: y :: rows) w w')) : Hid (KpM g r (y :: x :: rows) w w') :=
  ⟨h.out.only, h.out.row, h.out.ne, h.out.lt, fun z hz => h.out.own z (by simp only [List.mem_cons] at hz ⊢; rcases hz with h | h | h <;> simp [h])⟩
theorem KpM.apart {g b : Nat} {r l l2 : List Value} {rows : List (Nat × List Value)} {w w' w2 : World} (h : Hid (KpM g r rows w w')) (hx : (b, l) ∈ rows) : b < w'.heap.size := (h.out.own _ hx).2.2.lt (h.out.own _ hx).2.1
theorem KpM.rowH {g : Nat} {r : List Value} {rows : List (Nat × List Value)} {w w' : World} (h : Hid (KpM g r rows w w')) : RowV w' g r := h.out.row
end Go.Proofs.YtchfpiadfmnphaaDoor
