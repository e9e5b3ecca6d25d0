/- The program's ownText: the text itself, in memory of its own. What the program's GetText answers, for every text and place. The condition: errors.errorType reads as the program's text lays it. -/
import Derived.Test.YtchfpiadfmnphaaDoorRows
import Derived.Tactics2
import Derived.WalkKit
import Derived.WalkSpells
import Derived.ProofKit
import Derived.Lib.ConvBytes
import Derived.Laws.BytesArg
import Derived.Test.YtchfpiadfmnphaaDoorJn4
namespace Go.Proofs.YtchfpiadfmnphaaDoor
open Go.RowKit
set_option linter.unusedVariables false

theorem bytes_back (x : ByteArray) : strOfNums (x.data.toList.map fun b => (b.toNat : Int)) = x := by
  apply ByteArray.ext
  simp [strOfNums, List.map_map, Function.comp_def]
theorem below_bytes (w : World) (e : TypeId) (x : ByteArray) : Below w.heap.size w (Lib.bytesWorld w e x) :=
  ⟨rfl, rfl, rfl, by rw [Lib.bytesWorld_size]; omega, fun k hk => Lib.bytesWorld_at_old w e x k hk⟩

theorem ownText_any (x : ByteArray) (w : World) :
    Calls Tryd.prog 32 #[.string x] w fun e w' => e = .returned (.string x) ∧ Below w.heap.size w w' := by
  have h1 := Lib.run_convert_string_bytes (P := Tryd.prog) w 9 80 5 x Tryd.underlying9 Tryd.underlying80 Tryd.underlying5
  have h2 := run_convert_bytes_arg (P := Tryd.prog) (Lib.bytesWorld w 5 x) 80 5 Tryd.underlying80 Tryd.underlying5 w.heap.size 0 x.size (grownCap w x.size 0 5)
    (x.data.toList.map fun b => (b.toNat : Int)) (by simp) (fun i hi => by
      rw [Nat.zero_add, Lib.bytesWorld_cell w 5 x i hi]
      have hi' : i < x.data.toList.length := by simpa using hi
      simp [List.getElem?_eq_getElem hi']) 9 Tryd.underlying9
  rw [bytes_back] at h2
  have hb := below_bytes w 5 x
  have HB : Hid _ := hb
  clear hb
  generalize Lib.bytesWorld w 5 x = w1 at *
  generalize grownCap w x.size 0 5 = cap at *
  go_enter Tryd.func32, Tryd.ntmps32
  go_wp2
  go_ret
  exact ⟨rfl, HB.out⟩
end Go.Proofs.YtchfpiadfmnphaaDoor
namespace Go.Proofs.YtchfpiadfmnphaaDoor
open Go.RowKit
set_option linter.unusedVariables false

def tr (t : TX) : Value := .tuple #[.string t.text, .int .i64 t.behind, errV t.code]
set_option maxRecDepth 100000 in
set_option maxHeartbeats 1000000 in
theorem readText_any (s : ByteArray) (p : Int) (w : World) (hs : s.size ≤ maxLen) (hp : I64 p) :
    Calls Tryd.prog 102 #[.string s, .int .i64 p] w fun e w' => e = .returned (tr (getT s p)) ∧ Below w.heap.size w w' := by
  have HG : Hid (∀ w1, Calls Tryd.prog 103 #[.string s, .int .i64 p] w1 fun e w' => e = .returned (rv (getN s p)) ∧ w' = w1) := fun w1 => readNum_any s p w1 hs hp
  unfold maxLen at hs
  rcases getT_ways s p with ⟨c, hc, hg, ht⟩ | ⟨n, b, hg, hn, hz, hbs, ht⟩ | ⟨m, b, hg, hm, hlt, hz, hbs, ht⟩ | ⟨m, b, hg, hm, hlt, hz, hbs, ht⟩
  · rw [hg, rv_bad rfl hc] at HG
    have HT : Hid (tr (getT s p) = .tuple #[.string ⟨#[]⟩, .int .i64 0, .iface 149 (.agg #[.int .i64 c])]) := by show tr _ = _; rw [ht]; simp [tr, errV, hc, noText]
    clear ht hg hc
    go_enter Tryd.func102, Tryd.ntmps102
    go_wp2_with fail
    refine (HG.out _).mono ?_
    rintro e w1 ⟨rfl, rfl⟩
    clear HG
    go_wp2
    go_ret3
    exact ⟨ret_val HT.out.symm, Below.refl _ _⟩
  · rw [hg, rv_good rfl] at HG
    have HT : Hid (tr (getT s p) = .tuple #[.string ⟨#[]⟩, .int .i64 0, .iface 149 (.agg #[.int .i64 3])]) := by show tr _ = _; rw [ht]; simp [tr, errV, noText]
    clear ht hg
    rcases hn with hn | hn
    all_goals
      go_enter Tryd.func102, Tryd.ntmps102
      go_wp2_with fail
      refine (HG.out _).mono ?_
      rintro e w1 ⟨rfl, rfl⟩
      clear HG
      go_wp2
      go_ret3
      exact ⟨ret_val HT.out.symm, Below.refl _ _⟩
  · rw [hg, rv_good rfl] at HG
    have HT : Hid (tr (getT s p) = .tuple #[.string ⟨#[]⟩, .int .i64 0, .iface 149 (.agg #[.int .i64 4])]) := by show tr _ = _; rw [ht]; simp [tr, errV, noText]
    clear ht hg
    go_enter Tryd.func102, Tryd.ntmps102
    go_wp2_with fail
    refine (HG.out _).mono ?_
    rintro e w1 ⟨rfl, rfl⟩
    clear HG
    go_wp2
    go_ret3
    exact ⟨ret_val HT.out.symm, Below.refl _ _⟩
  · rw [hg, rv_good rfl] at HG
    obtain ⟨x, hx⟩ : ∃ x, s.extract b (b + m) = x := ⟨_, rfl⟩
    have HT : Hid (tr (getT s p) = .tuple #[.string x, .int .i64 ((b : Int) + (m : Int)), .nilIface]) := by show tr _ = _; rw [ht, hx]; simp [tr, errV]
    have HO : Hid (∀ w1, Calls Tryd.prog 32 #[.string x] w1 fun e w' => e = .returned (.string x) ∧ Below w1.heap.size w1 w') := fun w1 => ownText_any x w1
    have hsl : ∀ w0 : World, (Instr.slice 9 (.string s) (some (.int .i64 (b : Int))) (some (.int .i64 ((b : Int) + (m : Int)))) none).run Tryd.prog w0 = .ok (.string x) w0 := by
      intro w0
      rw [run_slice_string_if w0 9 s .i64 .i64 b _ Tryd.underlying9, if_pos ⟨by omega, by omega⟩, if_pos ⟨by omega, by omega⟩, ← hx]
      rfl
    clear ht hg hx
    go_enter Tryd.func102, Tryd.ntmps102
    go_wp2_with fail
    refine (HG.out _).mono ?_
    rintro e w1 ⟨rfl, rfl⟩
    clear HG
    go_wp2_with fail
    refine (HO.out _).mono ?_
    rintro e w2 ⟨rfl, hb2⟩
    have HB2 : Hid _ := hb2
    clear HO hsl hb2
    go_wp2
    go_ret3
    exact ⟨ret_val HT.out.symm, HB2.out⟩
end Go.Proofs.YtchfpiadfmnphaaDoor
