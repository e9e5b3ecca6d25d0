/- Of each type that is a row of cells: that it is one, how many, what it is at first; of a scalar: that it is one cell. -/
import Derived.Test.YtdfglpbappeoaaaDoorSta
namespace Go.Proofs.YtdfglpbappeoaaaDoor
open Go.RowKit
set_option linter.unusedVariables false

theorem Tryd.s1_int64 : (Tryd.prog.info? 2).map (·.size) = some 1 := by kernel_rfl
theorem Tryd.s1_int : (Tryd.prog.info? 3).map (·.size) = some 1 := by kernel_rfl
theorem Tryd.s1_bool : (Tryd.prog.info? 4).map (·.size) = some 1 := by kernel_rfl
theorem Tryd.s1_uint8 : (Tryd.prog.info? 5).map (·.size) = some 1 := by kernel_rfl
theorem Tryd.s1_string : (Tryd.prog.info? 9).map (·.size) = some 1 := by kernel_rfl
theorem Tryd.uT_implHead : ∃ d, Tryd.prog.underlying 25 = some d ∧ d.isRow = true := ⟨_, Tryd.underlying25, rfl⟩
theorem Tryd.sT_implHead : (Tryd.prog.info? 25).map (·.size) = some 3 := by kernel_rfl
theorem Tryd.zT_implHead : (Tryd.prog.info? 25).map (fun i => i.zero) = some (some (.agg ([.int .i64 0, .string ⟨#[]⟩, .int .i64 0] : List Value).toArray)) := by kernel_rfl
theorem Tryd.s1_slint64 : (Tryd.prog.info? 47).map (·.size) = some 1 := by kernel_rfl
theorem Tryd.uT_implHash : ∃ d, Tryd.prog.underlying 49 = some d ∧ d.isRow = true := ⟨_, Tryd.underlying49, rfl⟩
theorem Tryd.sT_implHash : (Tryd.prog.info? 49).map (·.size) = some 3 := by kernel_rfl
theorem Tryd.zT_implHash : (Tryd.prog.info? 49).map (fun i => i.zero) = some (some (.agg ([.slice none 0 0, .string ⟨#[]⟩, .int .i64 0] : List Value).toArray)) := by kernel_rfl
theorem Tryd.s1_slstring : (Tryd.prog.info? 22).map (·.size) = some 1 := by kernel_rfl
theorem Tryd.uT_implwalk : ∃ d, Tryd.prog.underlying 40 = some d ∧ d.isRow = true := ⟨_, Tryd.underlying40, rfl⟩
theorem Tryd.sT_implwalk : (Tryd.prog.info? 40).map (·.size) = some 2 := by kernel_rfl
theorem Tryd.zT_implwalk : (Tryd.prog.info? 40).map (fun i => i.zero) = some (some (.agg ([.int .i64 0, .int .i64 0] : List Value).toArray)) := by kernel_rfl
end Go.Proofs.YtdfglpbappeoaaaDoor
