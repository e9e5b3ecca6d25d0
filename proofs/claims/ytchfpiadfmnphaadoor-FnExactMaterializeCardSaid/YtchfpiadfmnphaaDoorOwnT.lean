/- The program's ownText: the text itself, in memory of its own. -/
import Derived.Test.YtchfpiadfmnphaaDoorRows
import Derived.Tactics2
import Derived.WalkKit
import Derived.WalkSpells
import Derived.ProofKit
import Derived.Lib.ConvBytes
import Derived.Laws.BytesArg
namespace Go.Proofs.YtchfpiadfmnphaaDoor
open Go.RowKit
set_option linter.unusedVariables false

theorem bytes_back (x : ByteArray) : strOfNums (x.data.toList.map fun b => (b.toNat : Int)) = x := by
  apply ByteArray.ext
  simp [strOfNums, List.map_map, Function.comp_def]
theorem below_bytes (w : World) (e : TypeId) (x : ByteArray) : Below w.heap.size w (Lib.bytesWorld w e x) :=
  ⟨rfl, rfl, rfl, by rw [Lib.bytesWorld_size]; omega, fun k hk => Lib.bytesWorld_at_old w e x k hk⟩

theorem ownText_any (x : ByteArray) (w : World) :
    Calls Tryd.prog 32 #[.string x] w fun e w' => e = .returned (.string x) ∧ Below w.heap.size w w' := by
  have h1 := Lib.run_convert_string_bytes (P := Tryd.prog) w 9 80 5 x Tryd.underlying9 Tryd.underlying80 Tryd.underlying5
  have h2 := run_convert_bytes_arg (P := Tryd.prog) (Lib.bytesWorld w 5 x) 80 5 Tryd.underlying80 Tryd.underlying5 w.heap.size 0 x.size (grownCap w x.size 0 5)
    (x.data.toList.map fun b => (b.toNat : Int)) (by simp) (fun i hi => by
      rw [Nat.zero_add, Lib.bytesWorld_cell w 5 x i hi]
      have hi' : i < x.data.toList.length := by simpa using hi
      simp [List.getElem?_eq_getElem hi']) 9 Tryd.underlying9
  rw [bytes_back] at h2
  have hb := below_bytes w 5 x
  have HB : Hid _ := hb
  clear hb
  generalize Lib.bytesWorld w 5 x = w1 at *
  generalize grownCap w x.size 0 5 = cap at *
  go_enter Tryd.func32, Tryd.ntmps32
  go_wp2
  go_ret
  exact ⟨rfl, HB.out⟩
end Go.Proofs.YtchfpiadfmnphaaDoor
