/- Of each type that is a row of cells: that it is one, how many, what it is at first; of a scalar: that it is one cell. -/
import Derived.Test.YtaalegjhhpfhbaaSta
namespace Go.Proofs.Ytaalegjhhpfhbaa
open Go.RowKit
set_option linter.unusedVariables false

theorem Try.s1_int64 : (Try.prog.info? 2).map (·.size) = some 1 := by kernel_rfl
theorem Try.s1_int : (Try.prog.info? 3).map (·.size) = some 1 := by kernel_rfl
theorem Try.s1_bool : (Try.prog.info? 4).map (·.size) = some 1 := by kernel_rfl
theorem Try.s1_uint8 : (Try.prog.info? 5).map (·.size) = some 1 := by kernel_rfl
theorem Try.s1_string : (Try.prog.info? 9).map (·.size) = some 1 := by kernel_rfl
theorem Try.s1_slimplRole : (Try.prog.info? 43).map (·.size) = some 1 := by kernel_rfl
theorem Try.uT_implRoot : ∃ d, Try.prog.underlying 45 = some d ∧ d.isRow = true := ⟨_, Try.underlying45, rfl⟩
theorem Try.sT_implRoot : (Try.prog.info? 45).map (·.size) = some 3 := by kernel_rfl
theorem Try.zT_implRoot : (Try.prog.info? 45).map (fun i => i.zero) = some (some (.agg ([.int .i64 0, .int .i64 0, .slice none 0 0] : List Value).toArray)) := by kernel_rfl
theorem Try.uT_implRootOut : ∃ d, Try.prog.underlying 47 = some d ∧ d.isRow = true := ⟨_, Try.underlying47, rfl⟩
theorem Try.sT_implRootOut : (Try.prog.info? 47).map (·.size) = some 4 := by kernel_rfl
theorem Try.zT_implRootOut : (Try.prog.info? 47).map (fun i => i.zero) = some (some (.agg ([.int .i64 0, .int .i64 0, .slice none 0 0, .int .i64 0] : List Value).toArray)) := by kernel_rfl
theorem Try.s1_slimplSig : (Try.prog.info? 62).map (·.size) = some 1 := by kernel_rfl
theorem Try.uT_implSigned : ∃ d, Try.prog.underlying 64 = some d ∧ d.isRow = true := ⟨_, Try.underlying64, rfl⟩
theorem Try.sT_implSigned : (Try.prog.info? 64).map (·.size) = some 2 := by kernel_rfl
theorem Try.zT_implSigned : (Try.prog.info? 64).map (fun i => i.zero) = some (some (.agg ([.string ⟨#[]⟩, .slice none 0 0] : List Value).toArray)) := by kernel_rfl
theorem Try.uT_implSignedOut : ∃ d, Try.prog.underlying 68 = some d ∧ d.isRow = true := ⟨_, Try.underlying68, rfl⟩
theorem Try.sT_implSignedOut : (Try.prog.info? 68).map (·.size) = some 3 := by kernel_rfl
theorem Try.zT_implSignedOut : (Try.prog.info? 68).map (fun i => i.zero) = some (some (.agg ([.string ⟨#[]⟩, .slice none 0 0, .int .i64 0] : List Value).toArray)) := by kernel_rfl
theorem Try.s1_slint64 : (Try.prog.info? 132).map (·.size) = some 1 := by kernel_rfl
theorem Try.uT_implRole : ∃ d, Try.prog.underlying 134 = some d ∧ d.isRow = true := ⟨_, Try.underlying134, rfl⟩
theorem Try.sT_implRole : (Try.prog.info? 134).map (·.size) = some 2 := by kernel_rfl
theorem Try.zT_implRole : (Try.prog.info? 134).map (fun i => i.zero) = some (some (.agg ([.int .i64 0, .slice none 0 0] : List Value).toArray)) := by kernel_rfl
theorem Try.uT_implSig : ∃ d, Try.prog.underlying 124 = some d ∧ d.isRow = true := ⟨_, Try.underlying124, rfl⟩
theorem Try.sT_implSig : (Try.prog.info? 124).map (·.size) = some 3 := by kernel_rfl
theorem Try.zT_implSig : (Try.prog.info? 124).map (fun i => i.zero) = some (some (.agg ([.int .i64 0, .int .i64 0, .int .i64 0] : List Value).toArray)) := by kernel_rfl
theorem Try.uT_implcursor : ∃ d, Try.prog.underlying 154 = some d ∧ d.isRow = true := ⟨_, Try.underlying154, rfl⟩
theorem Try.sT_implcursor : (Try.prog.info? 154).map (·.size) = some 2 := by kernel_rfl
theorem Try.zT_implcursor : (Try.prog.info? 154).map (fun i => i.zero) = some (some (.agg ([.string ⟨#[]⟩, .int .i64 0] : List Value).toArray)) := by kernel_rfl
theorem Try.uT_implreader : ∃ d, Try.prog.underlying 156 = some d ∧ d.isRow = true := ⟨_, Try.underlying156, rfl⟩
theorem Try.sT_implreader : (Try.prog.info? 156).map (·.size) = some 2 := by kernel_rfl
theorem Try.zT_implreader : (Try.prog.info? 156).map (fun i => i.zero) = some (some (.agg ([.string ⟨#[]⟩, .int .i64 0] : List Value).toArray)) := by kernel_rfl
theorem Try.uT_implNumOut : ∃ d, Try.prog.underlying 182 = some d ∧ d.isRow = true := ⟨_, Try.underlying182, rfl⟩
theorem Try.sT_implNumOut : (Try.prog.info? 182).map (·.size) = some 3 := by kernel_rfl
theorem Try.zT_implNumOut : (Try.prog.info? 182).map (fun i => i.zero) = some (some (.agg ([.int .i64 0, .int .i64 0, .int .i64 0] : List Value).toArray)) := by kernel_rfl
theorem Try.uT_implbytesFault : ∃ d, Try.prog.underlying 186 = some d ∧ d.isRow = true := ⟨_, Try.underlying186, rfl⟩
theorem Try.sT_implbytesFault : (Try.prog.info? 186).map (·.size) = some 1 := by kernel_rfl
theorem Try.zT_implbytesFault : (Try.prog.info? 186).map (fun i => i.zero) = some (some (.agg ([.int .i64 0] : List Value).toArray)) := by kernel_rfl
theorem Try.uT_implTextOut : ∃ d, Try.prog.underlying 199 = some d ∧ d.isRow = true := ⟨_, Try.underlying199, rfl⟩
theorem Try.sT_implTextOut : (Try.prog.info? 199).map (·.size) = some 3 := by kernel_rfl
theorem Try.zT_implTextOut : (Try.prog.info? 199).map (fun i => i.zero) = some (some (.agg ([.string ⟨#[]⟩, .int .i64 0, .int .i64 0] : List Value).toArray)) := by kernel_rfl
theorem Try.uT_implHash : ∃ d, Try.prog.underlying 193 = some d ∧ d.isRow = true := ⟨_, Try.underlying193, rfl⟩
theorem Try.sT_implHash : (Try.prog.info? 193).map (·.size) = some 3 := by kernel_rfl
theorem Try.zT_implHash : (Try.prog.info? 193).map (fun i => i.zero) = some (some (.agg ([.slice none 0 0, .string ⟨#[]⟩, .int .i64 0] : List Value).toArray)) := by kernel_rfl
theorem Try.s1_slstring : (Try.prog.info? 160).map (·.size) = some 1 := by kernel_rfl
theorem Try.s1_slimplLayer : (Try.prog.info? 52).map (·.size) = some 1 := by kernel_rfl
theorem Try.s1_slimplLabel : (Try.prog.info? 32).map (·.size) = some 1 := by kernel_rfl
theorem Try.uT_implManifest : ∃ d, Try.prog.underlying 54 = some d ∧ d.isRow = true := ⟨_, Try.underlying54, rfl⟩
theorem Try.sT_implManifest : (Try.prog.info? 54).map (·.size) = some 3 := by kernel_rfl
theorem Try.zT_implManifest : (Try.prog.info? 54).map (fun i => i.zero) = some (some (.agg ([.string ⟨#[]⟩, .slice none 0 0, .slice none 0 0] : List Value).toArray)) := by kernel_rfl
theorem Try.uT_implManifestOut : ∃ d, Try.prog.underlying 59 = some d ∧ d.isRow = true := ⟨_, Try.underlying59, rfl⟩
theorem Try.sT_implManifestOut : (Try.prog.info? 59).map (·.size) = some 4 := by kernel_rfl
theorem Try.zT_implManifestOut : (Try.prog.info? 59).map (fun i => i.zero) = some (some (.agg ([.string ⟨#[]⟩, .slice none 0 0, .slice none 0 0, .int .i64 0] : List Value).toArray)) := by kernel_rfl
theorem Try.uT_implLayer : ∃ d, Try.prog.underlying 112 = some d ∧ d.isRow = true := ⟨_, Try.underlying112, rfl⟩
theorem Try.sT_implLayer : (Try.prog.info? 112).map (·.size) = some 2 := by kernel_rfl
theorem Try.zT_implLayer : (Try.prog.info? 112).map (fun i => i.zero) = some (some (.agg ([.string ⟨#[]⟩, .int .i64 0] : List Value).toArray)) := by kernel_rfl
theorem Try.uT_implLabel : ∃ d, Try.prog.underlying 88 = some d ∧ d.isRow = true := ⟨_, Try.underlying88, rfl⟩
theorem Try.sT_implLabel : (Try.prog.info? 88).map (·.size) = some 2 := by kernel_rfl
theorem Try.zT_implLabel : (Try.prog.info? 88).map (fun i => i.zero) = some (some (.agg ([.string ⟨#[]⟩, .string ⟨#[]⟩] : List Value).toArray)) := by kernel_rfl
theorem Try.uT_lawsLabel : ∃ d, Try.prog.underlying 85 = some d ∧ d.isRow = true := ⟨_, Try.underlying85, rfl⟩
theorem Try.sT_lawsLabel : (Try.prog.info? 85).map (·.size) = some 2 := by kernel_rfl
theorem Try.zT_lawsLabel : (Try.prog.info? 85).map (fun i => i.zero) = some (some (.agg ([.string ⟨#[]⟩, .string ⟨#[]⟩] : List Value).toArray)) := by kernel_rfl
theorem Try.s1_slimplIns : (Try.prog.info? 25).map (·.size) = some 1 := by kernel_rfl
theorem Try.uT_implIns : ∃ d, Try.prog.underlying 41 = some d ∧ d.isRow = true := ⟨_, Try.underlying41, rfl⟩
theorem Try.sT_implIns : (Try.prog.info? 41).map (·.size) = some 3 := by kernel_rfl
theorem Try.zT_implIns : (Try.prog.info? 41).map (fun i => i.zero) = some (some (.agg ([.int .i64 0, .string ⟨#[]⟩, .string ⟨#[]⟩] : List Value).toArray)) := by kernel_rfl
theorem Try.uT_lawsIns : ∃ d, Try.prog.underlying 75 = some d ∧ d.isRow = true := ⟨_, Try.underlying75, rfl⟩
theorem Try.sT_lawsIns : (Try.prog.info? 75).map (·.size) = some 3 := by kernel_rfl
theorem Try.zT_lawsIns : (Try.prog.info? 75).map (fun i => i.zero) = some (some (.agg ([.int .i64 0, .string ⟨#[]⟩, .string ⟨#[]⟩] : List Value).toArray)) := by kernel_rfl
theorem Try.s1_slimplnode : (Try.prog.info? 139).map (·.size) = some 1 := by kernel_rfl
theorem Try.uT_implisNode : ∃ d, Try.prog.underlying 174 = some d ∧ d.isRow = true := ⟨_, Try.underlying174, rfl⟩
theorem Try.sT_implisNode : (Try.prog.info? 174).map (·.size) = some 2 := by kernel_rfl
theorem Try.zT_implisNode : (Try.prog.info? 174).map (fun i => i.zero) = some (some (.agg ([.string ⟨#[]⟩, .string ⟨#[]⟩] : List Value).toArray)) := by kernel_rfl
theorem Try.uT_implhasNode : ∃ d, Try.prog.underlying 176 = some d ∧ d.isRow = true := ⟨_, Try.underlying176, rfl⟩
theorem Try.sT_implhasNode : (Try.prog.info? 176).map (·.size) = some 1 := by kernel_rfl
theorem Try.zT_implhasNode : (Try.prog.info? 176).map (fun i => i.zero) = some (some (.agg ([.string ⟨#[]⟩] : List Value).toArray)) := by kernel_rfl
theorem Try.uT_implnotNode : ∃ d, Try.prog.underlying 178 = some d ∧ d.isRow = true := ⟨_, Try.underlying178, rfl⟩
theorem Try.sT_implnotNode : (Try.prog.info? 178).map (·.size) = some 1 := by kernel_rfl
theorem Try.zT_implnotNode : (Try.prog.info? 178).map (fun i => i.zero) = some (some (.agg ([.nilIface] : List Value).toArray)) := by kernel_rfl
theorem Try.uT_implpairNode : ∃ d, Try.prog.underlying 180 = some d ∧ d.isRow = true := ⟨_, Try.underlying180, rfl⟩
theorem Try.sT_implpairNode : (Try.prog.info? 180).map (·.size) = some 3 := by kernel_rfl
theorem Try.zT_implpairNode : (Try.prog.info? 180).map (fun i => i.zero) = some (some (.agg ([.int .i64 0, .nilIface, .nilIface] : List Value).toArray)) := by kernel_rfl
end Go.Proofs.Ytaalegjhhpfhbaa
