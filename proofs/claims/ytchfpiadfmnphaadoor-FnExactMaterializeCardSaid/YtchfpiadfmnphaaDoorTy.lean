/- Of each type that is a row of cells: that it is one, how many, what it is at first; of a scalar: that it is one cell. -/
import Derived.Test.YtchfpiadfmnphaaDoorJn19
namespace Go.Proofs.YtchfpiadfmnphaaDoor
open Go.RowKit
set_option linter.unusedVariables false

theorem Tryd.s1_int64 : (Tryd.prog.info? 2).map (·.size) = some 1 := by kernel_rfl
theorem Tryd.s1_int : (Tryd.prog.info? 3).map (·.size) = some 1 := by kernel_rfl
theorem Tryd.s1_bool : (Tryd.prog.info? 4).map (·.size) = some 1 := by kernel_rfl
theorem Tryd.s1_uint8 : (Tryd.prog.info? 5).map (·.size) = some 1 := by kernel_rfl
theorem Tryd.s1_string : (Tryd.prog.info? 9).map (·.size) = some 1 := by kernel_rfl
theorem Tryd.s1_slint64 : (Tryd.prog.info? 75).map (·.size) = some 1 := by kernel_rfl
theorem Tryd.uT_implcursor : ∃ d, Tryd.prog.underlying 120 = some d ∧ d.isRow = true := ⟨_, Tryd.underlying120, rfl⟩
theorem Tryd.sT_implcursor : (Tryd.prog.info? 120).map (·.size) = some 2 := by kernel_rfl
theorem Tryd.zT_implcursor : (Tryd.prog.info? 120).map (fun i => i.zero) = some (some (.agg ([.string ⟨#[]⟩, .int .i64 0] : List Value).toArray)) := by kernel_rfl
theorem Tryd.uT_implreader : ∃ d, Tryd.prog.underlying 122 = some d ∧ d.isRow = true := ⟨_, Tryd.underlying122, rfl⟩
theorem Tryd.sT_implreader : (Tryd.prog.info? 122).map (·.size) = some 2 := by kernel_rfl
theorem Tryd.zT_implreader : (Tryd.prog.info? 122).map (fun i => i.zero) = some (some (.agg ([.string ⟨#[]⟩, .int .i64 0] : List Value).toArray)) := by kernel_rfl
theorem Tryd.uT_implNumOut : ∃ d, Tryd.prog.underlying 145 = some d ∧ d.isRow = true := ⟨_, Tryd.underlying145, rfl⟩
theorem Tryd.sT_implNumOut : (Tryd.prog.info? 145).map (·.size) = some 3 := by kernel_rfl
theorem Tryd.zT_implNumOut : (Tryd.prog.info? 145).map (fun i => i.zero) = some (some (.agg ([.int .i64 0, .int .i64 0, .int .i64 0] : List Value).toArray)) := by kernel_rfl
theorem Tryd.uT_implbytesFault : ∃ d, Tryd.prog.underlying 149 = some d ∧ d.isRow = true := ⟨_, Tryd.underlying149, rfl⟩
theorem Tryd.sT_implbytesFault : (Tryd.prog.info? 149).map (·.size) = some 1 := by kernel_rfl
theorem Tryd.zT_implbytesFault : (Tryd.prog.info? 149).map (fun i => i.zero) = some (some (.agg ([.int .i64 0] : List Value).toArray)) := by kernel_rfl
theorem Tryd.uT_implTextOut : ∃ d, Tryd.prog.underlying 142 = some d ∧ d.isRow = true := ⟨_, Tryd.underlying142, rfl⟩
theorem Tryd.sT_implTextOut : (Tryd.prog.info? 142).map (·.size) = some 3 := by kernel_rfl
theorem Tryd.zT_implTextOut : (Tryd.prog.info? 142).map (fun i => i.zero) = some (some (.agg ([.string ⟨#[]⟩, .int .i64 0, .int .i64 0] : List Value).toArray)) := by kernel_rfl
theorem Tryd.uT_implHash : ∃ d, Tryd.prog.underlying 77 = some d ∧ d.isRow = true := ⟨_, Tryd.underlying77, rfl⟩
theorem Tryd.sT_implHash : (Tryd.prog.info? 77).map (·.size) = some 3 := by kernel_rfl
theorem Tryd.zT_implHash : (Tryd.prog.info? 77).map (fun i => i.zero) = some (some (.agg ([.slice none 0 0, .string ⟨#[]⟩, .int .i64 0] : List Value).toArray)) := by kernel_rfl
theorem Tryd.s1_slstring : (Tryd.prog.info? 22).map (·.size) = some 1 := by kernel_rfl
theorem Tryd.s1_slimplLayer : (Tryd.prog.info? 38).map (·.size) = some 1 := by kernel_rfl
theorem Tryd.s1_slimplLabel : (Tryd.prog.info? 39).map (·.size) = some 1 := by kernel_rfl
theorem Tryd.uT_implManifest : ∃ d, Tryd.prog.underlying 41 = some d ∧ d.isRow = true := ⟨_, Tryd.underlying41, rfl⟩
theorem Tryd.sT_implManifest : (Tryd.prog.info? 41).map (·.size) = some 3 := by kernel_rfl
theorem Tryd.zT_implManifest : (Tryd.prog.info? 41).map (fun i => i.zero) = some (some (.agg ([.string ⟨#[]⟩, .slice none 0 0, .slice none 0 0] : List Value).toArray)) := by kernel_rfl
theorem Tryd.uT_implManifestOut : ∃ d, Tryd.prog.underlying 60 = some d ∧ d.isRow = true := ⟨_, Tryd.underlying60, rfl⟩
theorem Tryd.sT_implManifestOut : (Tryd.prog.info? 60).map (·.size) = some 4 := by kernel_rfl
theorem Tryd.zT_implManifestOut : (Tryd.prog.info? 60).map (fun i => i.zero) = some (some (.agg ([.string ⟨#[]⟩, .slice none 0 0, .slice none 0 0, .int .i64 0] : List Value).toArray)) := by kernel_rfl
theorem Tryd.uT_implLayer : ∃ d, Tryd.prog.underlying 85 = some d ∧ d.isRow = true := ⟨_, Tryd.underlying85, rfl⟩
theorem Tryd.sT_implLayer : (Tryd.prog.info? 85).map (·.size) = some 2 := by kernel_rfl
theorem Tryd.zT_implLayer : (Tryd.prog.info? 85).map (fun i => i.zero) = some (some (.agg ([.string ⟨#[]⟩, .int .i64 0] : List Value).toArray)) := by kernel_rfl
theorem Tryd.uT_implLabel : ∃ d, Tryd.prog.underlying 116 = some d ∧ d.isRow = true := ⟨_, Tryd.underlying116, rfl⟩
theorem Tryd.sT_implLabel : (Tryd.prog.info? 116).map (·.size) = some 2 := by kernel_rfl
theorem Tryd.zT_implLabel : (Tryd.prog.info? 116).map (fun i => i.zero) = some (some (.agg ([.string ⟨#[]⟩, .string ⟨#[]⟩] : List Value).toArray)) := by kernel_rfl
theorem Tryd.uT_lawsStore : ∃ d, Tryd.prog.underlying 24 = some d ∧ d.isRow = true := ⟨_, Tryd.underlying24, rfl⟩
theorem Tryd.sT_lawsStore : (Tryd.prog.info? 24).map (·.size) = some 1 := by kernel_rfl
theorem Tryd.zT_lawsStore : (Tryd.prog.info? 24).map (fun i => i.zero) = some (some (.agg ([.slice none 0 0] : List Value).toArray)) := by kernel_rfl
theorem Tryd.uT_implStore : ∃ d, Tryd.prog.underlying 27 = some d ∧ d.isRow = true := ⟨_, Tryd.underlying27, rfl⟩
theorem Tryd.sT_implStore : (Tryd.prog.info? 27).map (·.size) = some 1 := by kernel_rfl
theorem Tryd.zT_implStore : (Tryd.prog.info? 27).map (fun i => i.zero) = some (some (.agg ([.slice none 0 0] : List Value).toArray)) := by kernel_rfl
theorem Tryd.uT_implStoreOut : ∃ d, Tryd.prog.underlying 32 = some d ∧ d.isRow = true := ⟨_, Tryd.underlying32, rfl⟩
theorem Tryd.sT_implStoreOut : (Tryd.prog.info? 32).map (·.size) = some 3 := by kernel_rfl
theorem Tryd.zT_implStoreOut : (Tryd.prog.info? 32).map (fun i => i.zero) = some (some (.agg ([.slice none 0 0, .string ⟨#[]⟩, .int .i64 0] : List Value).toArray)) := by kernel_rfl
theorem Tryd.uT_implImageOut : ∃ d, Tryd.prog.underlying 43 = some d ∧ d.isRow = true := ⟨_, Tryd.underlying43, rfl⟩
theorem Tryd.sT_implImageOut : (Tryd.prog.info? 43).map (·.size) = some 5 := by kernel_rfl
theorem Tryd.zT_implImageOut : (Tryd.prog.info? 43).map (fun i => i.zero) = some (some (.agg ([.string ⟨#[]⟩, .slice none 0 0, .slice none 0 0, .slice none 0 0, .int .i64 0] : List Value).toArray)) := by kernel_rfl
theorem Tryd.uT_implstored : ∃ d, Tryd.prog.underlying 69 = some d ∧ d.isRow = true := ⟨_, Tryd.underlying69, rfl⟩
theorem Tryd.sT_implstored : (Tryd.prog.info? 69).map (·.size) = some 1 := by kernel_rfl
theorem Tryd.zT_implstored : (Tryd.prog.info? 69).map (fun i => i.zero) = some (some (.agg ([.string ⟨#[]⟩] : List Value).toArray)) := by kernel_rfl
theorem Tryd.uT_implblobKey : ∃ d, Tryd.prog.underlying 71 = some d ∧ d.isRow = true := ⟨_, Tryd.underlying71, rfl⟩
theorem Tryd.sT_implblobKey : (Tryd.prog.info? 71).map (·.size) = some 32 := by kernel_rfl
theorem Tryd.zT_implblobKey : (Tryd.prog.info? 71).map (fun i => i.zero) = some (some (.agg ([.int .u8 0, .int .u8 0, .int .u8 0, .int .u8 0, .int .u8 0, .int .u8 0, .int .u8 0, .int .u8 0, .int .u8 0, .int .u8 0, .int .u8 0, .int .u8 0, .int .u8 0, .int .u8 0, .int .u8 0, .int .u8 0, .int .u8 0, .int .u8 0, .int .u8 0, .int .u8 0, .int .u8 0, .int .u8 0, .int .u8 0, .int .u8 0, .int .u8 0, .int .u8 0, .int .u8 0, .int .u8 0, .int .u8 0, .int .u8 0, .int .u8 0, .int .u8 0] : List Value).toArray)) := by kernel_rfl
theorem Tryd.s1_slimplblobKey : (Tryd.prog.info? 97).map (·.size) = some 1 := by kernel_rfl
end Go.Proofs.YtchfpiadfmnphaaDoor
