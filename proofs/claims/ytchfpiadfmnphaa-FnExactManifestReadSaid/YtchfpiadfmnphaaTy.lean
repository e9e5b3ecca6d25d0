/- Of each type that is a row of cells: that it is one, how many, what it is at first; of a scalar: that it is one cell. -/
import Derived.Test.YtchfpiadfmnphaaSta
namespace Go.Proofs.Ytchfpiadfmnphaa
open Go.RowKit
set_option linter.unusedVariables false

theorem Try.s1_int64 : (Try.prog.info? 2).map (·.size) = some 1 := by kernel_rfl
theorem Try.s1_int : (Try.prog.info? 3).map (·.size) = some 1 := by kernel_rfl
theorem Try.s1_bool : (Try.prog.info? 4).map (·.size) = some 1 := by kernel_rfl
theorem Try.s1_uint8 : (Try.prog.info? 5).map (·.size) = some 1 := by kernel_rfl
theorem Try.s1_string : (Try.prog.info? 9).map (·.size) = some 1 := by kernel_rfl
theorem Try.s1_slimplRole : (Try.prog.info? 42).map (·.size) = some 1 := by kernel_rfl
theorem Try.uT_implRoot : ∃ d, Try.prog.underlying 44 = some d ∧ d.isRow = true := ⟨_, Try.underlying44, rfl⟩
theorem Try.sT_implRoot : (Try.prog.info? 44).map (·.size) = some 3 := by kernel_rfl
theorem Try.zT_implRoot : (Try.prog.info? 44).map (fun i => i.zero) = some (some (.agg ([.int .i64 0, .int .i64 0, .slice none 0 0] : List Value).toArray)) := by kernel_rfl
theorem Try.uT_implRootOut : ∃ d, Try.prog.underlying 46 = some d ∧ d.isRow = true := ⟨_, Try.underlying46, rfl⟩
theorem Try.sT_implRootOut : (Try.prog.info? 46).map (·.size) = some 4 := by kernel_rfl
theorem Try.zT_implRootOut : (Try.prog.info? 46).map (fun i => i.zero) = some (some (.agg ([.int .i64 0, .int .i64 0, .slice none 0 0, .int .i64 0] : List Value).toArray)) := by kernel_rfl
theorem Try.s1_slimplSig : (Try.prog.info? 54).map (·.size) = some 1 := by kernel_rfl
theorem Try.uT_implSigned : ∃ d, Try.prog.underlying 56 = some d ∧ d.isRow = true := ⟨_, Try.underlying56, rfl⟩
theorem Try.sT_implSigned : (Try.prog.info? 56).map (·.size) = some 2 := by kernel_rfl
theorem Try.zT_implSigned : (Try.prog.info? 56).map (fun i => i.zero) = some (some (.agg ([.string ⟨#[]⟩, .slice none 0 0] : List Value).toArray)) := by kernel_rfl
theorem Try.uT_implSignedOut : ∃ d, Try.prog.underlying 60 = some d ∧ d.isRow = true := ⟨_, Try.underlying60, rfl⟩
theorem Try.sT_implSignedOut : (Try.prog.info? 60).map (·.size) = some 3 := by kernel_rfl
theorem Try.zT_implSignedOut : (Try.prog.info? 60).map (fun i => i.zero) = some (some (.agg ([.string ⟨#[]⟩, .slice none 0 0, .int .i64 0] : List Value).toArray)) := by kernel_rfl
theorem Try.s1_slint64 : (Try.prog.info? 109).map (·.size) = some 1 := by kernel_rfl
theorem Try.uT_implRole : ∃ d, Try.prog.underlying 111 = some d ∧ d.isRow = true := ⟨_, Try.underlying111, rfl⟩
theorem Try.sT_implRole : (Try.prog.info? 111).map (·.size) = some 2 := by kernel_rfl
theorem Try.zT_implRole : (Try.prog.info? 111).map (fun i => i.zero) = some (some (.agg ([.int .i64 0, .slice none 0 0] : List Value).toArray)) := by kernel_rfl
theorem Try.uT_implSig : ∃ d, Try.prog.underlying 101 = some d ∧ d.isRow = true := ⟨_, Try.underlying101, rfl⟩
theorem Try.sT_implSig : (Try.prog.info? 101).map (·.size) = some 3 := by kernel_rfl
theorem Try.zT_implSig : (Try.prog.info? 101).map (fun i => i.zero) = some (some (.agg ([.int .i64 0, .int .i64 0, .int .i64 0] : List Value).toArray)) := by kernel_rfl
theorem Try.uT_implcursor : ∃ d, Try.prog.underlying 135 = some d ∧ d.isRow = true := ⟨_, Try.underlying135, rfl⟩
theorem Try.sT_implcursor : (Try.prog.info? 135).map (·.size) = some 2 := by kernel_rfl
theorem Try.zT_implcursor : (Try.prog.info? 135).map (fun i => i.zero) = some (some (.agg ([.string ⟨#[]⟩, .int .i64 0] : List Value).toArray)) := by kernel_rfl
theorem Try.uT_implreader : ∃ d, Try.prog.underlying 137 = some d ∧ d.isRow = true := ⟨_, Try.underlying137, rfl⟩
theorem Try.sT_implreader : (Try.prog.info? 137).map (·.size) = some 2 := by kernel_rfl
theorem Try.zT_implreader : (Try.prog.info? 137).map (fun i => i.zero) = some (some (.agg ([.string ⟨#[]⟩, .int .i64 0] : List Value).toArray)) := by kernel_rfl
theorem Try.uT_implNumOut : ∃ d, Try.prog.underlying 161 = some d ∧ d.isRow = true := ⟨_, Try.underlying161, rfl⟩
theorem Try.sT_implNumOut : (Try.prog.info? 161).map (·.size) = some 3 := by kernel_rfl
theorem Try.zT_implNumOut : (Try.prog.info? 161).map (fun i => i.zero) = some (some (.agg ([.int .i64 0, .int .i64 0, .int .i64 0] : List Value).toArray)) := by kernel_rfl
theorem Try.uT_implbytesFault : ∃ d, Try.prog.underlying 165 = some d ∧ d.isRow = true := ⟨_, Try.underlying165, rfl⟩
theorem Try.sT_implbytesFault : (Try.prog.info? 165).map (·.size) = some 1 := by kernel_rfl
theorem Try.zT_implbytesFault : (Try.prog.info? 165).map (fun i => i.zero) = some (some (.agg ([.int .i64 0] : List Value).toArray)) := by kernel_rfl
theorem Try.uT_implTextOut : ∃ d, Try.prog.underlying 158 = some d ∧ d.isRow = true := ⟨_, Try.underlying158, rfl⟩
theorem Try.sT_implTextOut : (Try.prog.info? 158).map (·.size) = some 3 := by kernel_rfl
theorem Try.zT_implTextOut : (Try.prog.info? 158).map (fun i => i.zero) = some (some (.agg ([.string ⟨#[]⟩, .int .i64 0, .int .i64 0] : List Value).toArray)) := by kernel_rfl
theorem Try.uT_implHash : ∃ d, Try.prog.underlying 175 = some d ∧ d.isRow = true := ⟨_, Try.underlying175, rfl⟩
theorem Try.sT_implHash : (Try.prog.info? 175).map (·.size) = some 3 := by kernel_rfl
theorem Try.zT_implHash : (Try.prog.info? 175).map (fun i => i.zero) = some (some (.agg ([.slice none 0 0, .string ⟨#[]⟩, .int .i64 0] : List Value).toArray)) := by kernel_rfl
theorem Try.s1_slstring : (Try.prog.info? 146).map (·.size) = some 1 := by kernel_rfl
theorem Try.uT_lawsManifest : ∃ d, Try.prog.underlying 25 = some d ∧ d.isRow = true := ⟨_, Try.underlying25, rfl⟩
theorem Try.sT_lawsManifest : (Try.prog.info? 25).map (·.size) = some 3 := by kernel_rfl
theorem Try.zT_lawsManifest : (Try.prog.info? 25).map (fun i => i.zero) = some (some (.agg ([.string ⟨#[]⟩, .slice none 0 0, .slice none 0 0] : List Value).toArray)) := by kernel_rfl
theorem Try.s1_slimplLayer : (Try.prog.info? 28).map (·.size) = some 1 := by kernel_rfl
theorem Try.s1_slimplLabel : (Try.prog.info? 29).map (·.size) = some 1 := by kernel_rfl
theorem Try.uT_implManifest : ∃ d, Try.prog.underlying 31 = some d ∧ d.isRow = true := ⟨_, Try.underlying31, rfl⟩
theorem Try.sT_implManifest : (Try.prog.info? 31).map (·.size) = some 3 := by kernel_rfl
theorem Try.zT_implManifest : (Try.prog.info? 31).map (fun i => i.zero) = some (some (.agg ([.string ⟨#[]⟩, .slice none 0 0, .slice none 0 0] : List Value).toArray)) := by kernel_rfl
theorem Try.uT_implManifestOut : ∃ d, Try.prog.underlying 37 = some d ∧ d.isRow = true := ⟨_, Try.underlying37, rfl⟩
theorem Try.sT_implManifestOut : (Try.prog.info? 37).map (·.size) = some 4 := by kernel_rfl
theorem Try.zT_implManifestOut : (Try.prog.info? 37).map (fun i => i.zero) = some (some (.agg ([.string ⟨#[]⟩, .slice none 0 0, .slice none 0 0, .int .i64 0] : List Value).toArray)) := by kernel_rfl
theorem Try.uT_implLayer : ∃ d, Try.prog.underlying 69 = some d ∧ d.isRow = true := ⟨_, Try.underlying69, rfl⟩
theorem Try.sT_implLayer : (Try.prog.info? 69).map (·.size) = some 2 := by kernel_rfl
theorem Try.zT_implLayer : (Try.prog.info? 69).map (fun i => i.zero) = some (some (.agg ([.string ⟨#[]⟩, .int .i64 0] : List Value).toArray)) := by kernel_rfl
theorem Try.uT_implLabel : ∃ d, Try.prog.underlying 71 = some d ∧ d.isRow = true := ⟨_, Try.underlying71, rfl⟩
theorem Try.sT_implLabel : (Try.prog.info? 71).map (·.size) = some 2 := by kernel_rfl
theorem Try.zT_implLabel : (Try.prog.info? 71).map (fun i => i.zero) = some (some (.agg ([.string ⟨#[]⟩, .string ⟨#[]⟩] : List Value).toArray)) := by kernel_rfl
theorem Try.uT_lawsLayer : ∃ d, Try.prog.underlying 117 = some d ∧ d.isRow = true := ⟨_, Try.underlying117, rfl⟩
theorem Try.sT_lawsLayer : (Try.prog.info? 117).map (·.size) = some 2 := by kernel_rfl
theorem Try.zT_lawsLayer : (Try.prog.info? 117).map (fun i => i.zero) = some (some (.agg ([.string ⟨#[]⟩, .int .i64 0] : List Value).toArray)) := by kernel_rfl
theorem Try.uT_lawsLabel : ∃ d, Try.prog.underlying 119 = some d ∧ d.isRow = true := ⟨_, Try.underlying119, rfl⟩
theorem Try.sT_lawsLabel : (Try.prog.info? 119).map (·.size) = some 2 := by kernel_rfl
theorem Try.zT_lawsLabel : (Try.prog.info? 119).map (fun i => i.zero) = some (some (.agg ([.string ⟨#[]⟩, .string ⟨#[]⟩] : List Value).toArray)) := by kernel_rfl
end Go.Proofs.Ytchfpiadfmnphaa
