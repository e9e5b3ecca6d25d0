/- Of each type that is a row of cells: that it is one, how many, what it is at first; of a scalar: that it is one cell. -/
import Derived.Test.YtdfglpbappeoaaaSta
namespace Go.Proofs.Ytdfglpbappeoaaa
open Go.RowKit
set_option linter.unusedVariables false

theorem Try.s1_int64 : (Try.prog.info? 2).map (·.size) = some 1 := by kernel_rfl
theorem Try.s1_int : (Try.prog.info? 3).map (·.size) = some 1 := by kernel_rfl
theorem Try.s1_bool : (Try.prog.info? 4).map (·.size) = some 1 := by kernel_rfl
theorem Try.s1_uint8 : (Try.prog.info? 5).map (·.size) = some 1 := by kernel_rfl
theorem Try.s1_string : (Try.prog.info? 9).map (·.size) = some 1 := by kernel_rfl
theorem Try.uT_lawsRoot : ∃ d, Try.prog.underlying 24 = some d ∧ d.isRow = true := ⟨_, Try.underlying24, rfl⟩
theorem Try.sT_lawsRoot : (Try.prog.info? 24).map (·.size) = some 3 := by kernel_rfl
theorem Try.zT_lawsRoot : (Try.prog.info? 24).map (fun i => i.zero) = some (some (.agg ([.int .i64 0, .int .i64 0, .slice none 0 0] : List Value).toArray)) := by kernel_rfl
theorem Try.s1_slimplRole : (Try.prog.info? 26).map (·.size) = some 1 := by kernel_rfl
theorem Try.uT_implRoot : ∃ d, Try.prog.underlying 28 = some d ∧ d.isRow = true := ⟨_, Try.underlying28, rfl⟩
theorem Try.sT_implRoot : (Try.prog.info? 28).map (·.size) = some 3 := by kernel_rfl
theorem Try.zT_implRoot : (Try.prog.info? 28).map (fun i => i.zero) = some (some (.agg ([.int .i64 0, .int .i64 0, .slice none 0 0] : List Value).toArray)) := by kernel_rfl
theorem Try.uT_implLink : ∃ d, Try.prog.underlying 30 = some d ∧ d.isRow = true := ⟨_, Try.underlying30, rfl⟩
theorem Try.sT_implLink : (Try.prog.info? 30).map (·.size) = some 3 := by kernel_rfl
theorem Try.zT_implLink : (Try.prog.info? 30).map (fun i => i.zero) = some (some (.agg ([.int .i64 0, .int .i64 0, .int .i64 0] : List Value).toArray)) := by kernel_rfl
theorem Try.s1_slimplTarget : (Try.prog.info? 31).map (·.size) = some 1 := by kernel_rfl
theorem Try.uT_implTargets : ∃ d, Try.prog.underlying 33 = some d ∧ d.isRow = true := ⟨_, Try.underlying33, rfl⟩
theorem Try.sT_implTargets : (Try.prog.info? 33).map (·.size) = some 3 := by kernel_rfl
theorem Try.zT_implTargets : (Try.prog.info? 33).map (fun i => i.zero) = some (some (.agg ([.int .i64 0, .int .i64 0, .slice none 0 0] : List Value).toArray)) := by kernel_rfl
theorem Try.uT_implHead : ∃ d, Try.prog.underlying 35 = some d ∧ d.isRow = true := ⟨_, Try.underlying35, rfl⟩
theorem Try.sT_implHead : (Try.prog.info? 35).map (·.size) = some 3 := by kernel_rfl
theorem Try.zT_implHead : (Try.prog.info? 35).map (fun i => i.zero) = some (some (.agg ([.int .i64 0, .string ⟨#[]⟩, .int .i64 0] : List Value).toArray)) := by kernel_rfl
theorem Try.uT_implTrust : ∃ d, Try.prog.underlying 37 = some d ∧ d.isRow = true := ⟨_, Try.underlying37, rfl⟩
theorem Try.sT_implTrust : (Try.prog.info? 37).map (·.size) = some 15 := by kernel_rfl
theorem Try.zT_implTrust : (Try.prog.info? 37).map (fun i => i.zero) = some (some (.agg ([.int .i64 0, .int .i64 0, .slice none 0 0, .int .i64 0, .int .i64 0, .int .i64 0, .int .i64 0, .int .i64 0, .int .i64 0, .int .i64 0, .int .i64 0, .slice none 0 0, .int .i64 0, .string ⟨#[]⟩, .int .i64 0] : List Value).toArray)) := by kernel_rfl
theorem Try.uT_implRootOut : ∃ d, Try.prog.underlying 46 = some d ∧ d.isRow = true := ⟨_, Try.underlying46, rfl⟩
theorem Try.sT_implRootOut : (Try.prog.info? 46).map (·.size) = some 4 := by kernel_rfl
theorem Try.zT_implRootOut : (Try.prog.info? 46).map (fun i => i.zero) = some (some (.agg ([.int .i64 0, .int .i64 0, .slice none 0 0, .int .i64 0] : List Value).toArray)) := by kernel_rfl
theorem Try.uT_lawsHead : ∃ d, Try.prog.underlying 53 = some d ∧ d.isRow = true := ⟨_, Try.underlying53, rfl⟩
theorem Try.sT_lawsHead : (Try.prog.info? 53).map (·.size) = some 3 := by kernel_rfl
theorem Try.zT_lawsHead : (Try.prog.info? 53).map (fun i => i.zero) = some (some (.agg ([.int .i64 0, .string ⟨#[]⟩, .int .i64 0] : List Value).toArray)) := by kernel_rfl
theorem Try.uT_implHeadOut : ∃ d, Try.prog.underlying 59 = some d ∧ d.isRow = true := ⟨_, Try.underlying59, rfl⟩
theorem Try.sT_implHeadOut : (Try.prog.info? 59).map (·.size) = some 4 := by kernel_rfl
theorem Try.zT_implHeadOut : (Try.prog.info? 59).map (fun i => i.zero) = some (some (.agg ([.int .i64 0, .string ⟨#[]⟩, .int .i64 0, .int .i64 0] : List Value).toArray)) := by kernel_rfl
theorem Try.s1_slimplSig : (Try.prog.info? 65).map (·.size) = some 1 := by kernel_rfl
theorem Try.uT_implSigned : ∃ d, Try.prog.underlying 67 = some d ∧ d.isRow = true := ⟨_, Try.underlying67, rfl⟩
theorem Try.sT_implSigned : (Try.prog.info? 67).map (·.size) = some 2 := by kernel_rfl
theorem Try.zT_implSigned : (Try.prog.info? 67).map (fun i => i.zero) = some (some (.agg ([.string ⟨#[]⟩, .slice none 0 0] : List Value).toArray)) := by kernel_rfl
theorem Try.uT_implSignedOut : ∃ d, Try.prog.underlying 71 = some d ∧ d.isRow = true := ⟨_, Try.underlying71, rfl⟩
theorem Try.sT_implSignedOut : (Try.prog.info? 71).map (·.size) = some 3 := by kernel_rfl
theorem Try.zT_implSignedOut : (Try.prog.info? 71).map (fun i => i.zero) = some (some (.agg ([.string ⟨#[]⟩, .slice none 0 0, .int .i64 0] : List Value).toArray)) := by kernel_rfl
theorem Try.s1_slint64 : (Try.prog.info? 93).map (·.size) = some 1 := by kernel_rfl
theorem Try.uT_implRole : ∃ d, Try.prog.underlying 95 = some d ∧ d.isRow = true := ⟨_, Try.underlying95, rfl⟩
theorem Try.sT_implRole : (Try.prog.info? 95).map (·.size) = some 2 := by kernel_rfl
theorem Try.zT_implRole : (Try.prog.info? 95).map (fun i => i.zero) = some (some (.agg ([.int .i64 0, .slice none 0 0] : List Value).toArray)) := by kernel_rfl
theorem Try.uT_implSig : ∃ d, Try.prog.underlying 113 = some d ∧ d.isRow = true := ⟨_, Try.underlying113, rfl⟩
theorem Try.sT_implSig : (Try.prog.info? 113).map (·.size) = some 3 := by kernel_rfl
theorem Try.zT_implSig : (Try.prog.info? 113).map (fun i => i.zero) = some (some (.agg ([.int .i64 0, .int .i64 0, .int .i64 0] : List Value).toArray)) := by kernel_rfl
theorem Try.uT_lawsRole : ∃ d, Try.prog.underlying 122 = some d ∧ d.isRow = true := ⟨_, Try.underlying122, rfl⟩
theorem Try.sT_lawsRole : (Try.prog.info? 122).map (·.size) = some 2 := by kernel_rfl
theorem Try.zT_lawsRole : (Try.prog.info? 122).map (fun i => i.zero) = some (some (.agg ([.int .i64 0, .slice none 0 0] : List Value).toArray)) := by kernel_rfl
theorem Try.uT_implcursor : ∃ d, Try.prog.underlying 137 = some d ∧ d.isRow = true := ⟨_, Try.underlying137, rfl⟩
theorem Try.sT_implcursor : (Try.prog.info? 137).map (·.size) = some 2 := by kernel_rfl
theorem Try.zT_implcursor : (Try.prog.info? 137).map (fun i => i.zero) = some (some (.agg ([.string ⟨#[]⟩, .int .i64 0] : List Value).toArray)) := by kernel_rfl
theorem Try.uT_implreader : ∃ d, Try.prog.underlying 139 = some d ∧ d.isRow = true := ⟨_, Try.underlying139, rfl⟩
theorem Try.sT_implreader : (Try.prog.info? 139).map (·.size) = some 2 := by kernel_rfl
theorem Try.zT_implreader : (Try.prog.info? 139).map (fun i => i.zero) = some (some (.agg ([.string ⟨#[]⟩, .int .i64 0] : List Value).toArray)) := by kernel_rfl
theorem Try.uT_implTarget : ∃ d, Try.prog.underlying 156 = some d ∧ d.isRow = true := ⟨_, Try.underlying156, rfl⟩
theorem Try.sT_implTarget : (Try.prog.info? 156).map (·.size) = some 3 := by kernel_rfl
theorem Try.zT_implTarget : (Try.prog.info? 156).map (fun i => i.zero) = some (some (.agg ([.string ⟨#[]⟩, .string ⟨#[]⟩, .int .i64 0] : List Value).toArray)) := by kernel_rfl
theorem Try.uT_implNumOut : ∃ d, Try.prog.underlying 160 = some d ∧ d.isRow = true := ⟨_, Try.underlying160, rfl⟩
theorem Try.sT_implNumOut : (Try.prog.info? 160).map (·.size) = some 3 := by kernel_rfl
theorem Try.zT_implNumOut : (Try.prog.info? 160).map (fun i => i.zero) = some (some (.agg ([.int .i64 0, .int .i64 0, .int .i64 0] : List Value).toArray)) := by kernel_rfl
theorem Try.uT_implbytesFault : ∃ d, Try.prog.underlying 164 = some d ∧ d.isRow = true := ⟨_, Try.underlying164, rfl⟩
theorem Try.sT_implbytesFault : (Try.prog.info? 164).map (·.size) = some 1 := by kernel_rfl
theorem Try.zT_implbytesFault : (Try.prog.info? 164).map (fun i => i.zero) = some (some (.agg ([.int .i64 0] : List Value).toArray)) := by kernel_rfl
theorem Try.uT_implTextOut : ∃ d, Try.prog.underlying 175 = some d ∧ d.isRow = true := ⟨_, Try.underlying175, rfl⟩
theorem Try.sT_implTextOut : (Try.prog.info? 175).map (·.size) = some 3 := by kernel_rfl
theorem Try.zT_implTextOut : (Try.prog.info? 175).map (fun i => i.zero) = some (some (.agg ([.string ⟨#[]⟩, .int .i64 0, .int .i64 0] : List Value).toArray)) := by kernel_rfl
theorem Try.uT_implHash : ∃ d, Try.prog.underlying 198 = some d ∧ d.isRow = true := ⟨_, Try.underlying198, rfl⟩
theorem Try.sT_implHash : (Try.prog.info? 198).map (·.size) = some 3 := by kernel_rfl
theorem Try.zT_implHash : (Try.prog.info? 198).map (fun i => i.zero) = some (some (.agg ([.slice none 0 0, .string ⟨#[]⟩, .int .i64 0] : List Value).toArray)) := by kernel_rfl
end Go.Proofs.Ytdfglpbappeoaaa
