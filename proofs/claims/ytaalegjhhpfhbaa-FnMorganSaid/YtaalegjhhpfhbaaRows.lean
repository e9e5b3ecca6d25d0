/-
  No cell of these rows narrows 'for every input' (looked for: loops, veiled, ifaces, maps, wideKeys, modest, calm, conditions, laid).
  DERIVED. THE GIVEN ROWS OF THIS SEAT. 8 by the template 'for every input the law returns true; each argument reads behind the call as it read before'; 0 by the template 'total and deterministic' (their statements: YtaalegjhhpfhbaaTotals.lean).
  GIVEN WITH THE SEED: the statements are not yours to turn. If you find one false, say at which input.
  Laid BY PROGRAM, IN A SANDBOX (cutbox-rows.mjs): the forced cells as the released guide's own fill.sh prints them over the translation 0080e1ad9b1b902f… (all of the seat's roots in one cut). By AI agents, Wed Nov 11 2026. No macro, syntax, notation, axiom, sorry.
-/
import Derived.Test.YtaalegjhhpfhbaaChecked
import GoSem.Claim
import GoSem.ClaimJoined
import GoSem.ClaimMapViews
import Derived.JoinedTies
import Derived.KernelRfl
namespace Go.Proofs.Ytaalegjhhpfhbaa
/- THE CELL 'sum', in the pinned program and in every row, IS THE sha256 OF THE DUMP (.gsa) THAT YtaalegjhhpfhbaaProg.lean LOADS. Nothing in Lean hashes anything: it is a label: what it is worth is what the hold of that sum in a sandbox is worth. -/
noncomputable def Try.pinned : Pinned := { name := "ytaalegjhhpfhbaa", sum := "0080e1ad9b1b902f52e8b32c8abb3522a217d7db6cb830283a459da04c1bec08", checked := Try.checked }
namespace Rows
def none {H : Type} : Left H := { results := [], args := [] }

/-- 'laws.FnExactPolicyRight': WHATEVER THE INPUT: true; the input reads as it did. -/
def fnExactPolicyRightSpec : ChangeSpec := { name := "fnExactPolicyRight", fn := fun _ => fun
  | [d] => { results := [.lit (.bool true)], args := [d] }
  | _ => none }
def fnExactPolicyRightRow : OpenClaim := { program := "ytaalegjhhpfhbaa", sum := "0080e1ad9b1b902f52e8b32c8abb3522a217d7db6cb830283a459da04c1bec08", func := "loop.example/g00279/laws.FnExactPolicyRight", spec := "fnExactPolicyRight", apart := false }
def FnExactPolicyRightSaid : Prop := fnExactPolicyRightRow.holds Try.pinned (OpenSpec.ofChange fnExactPolicyRightSpec)

/-- ITS FALSE NEIGHBOUR: 'it returns false'. Refute it at one input. -/
def fnExactPolicyRightWrong : ChangeSpec := { name := "fnExactPolicyRight", fn := fun _ => fun
  | [d] => { results := [.lit (.bool false)], args := [d] }
  | _ => none }
def FnExactPolicyRightWrongFalsely : Prop := fnExactPolicyRightRow.holds Try.pinned (OpenSpec.ofChange fnExactPolicyRightWrong)

/-- 'laws.FnExactPolicyEval': WHATEVER THE INPUT: true; the input reads as it did. -/
def fnExactPolicyEvalSpec : ChangeSpec := { name := "fnExactPolicyEval", fn := fun _ => fun
  | [d1, d2] => { results := [.lit (.bool true)], args := [d1, d2] }
  | _ => none }
def fnExactPolicyEvalRow : OpenClaim := { program := "ytaalegjhhpfhbaa", sum := "0080e1ad9b1b902f52e8b32c8abb3522a217d7db6cb830283a459da04c1bec08", func := "loop.example/g00279/laws.FnExactPolicyEval", spec := "fnExactPolicyEval", unfollowed := true, recurses := true, apart := false }
def FnExactPolicyEvalSaid : Prop := fnExactPolicyEvalRow.holds Try.pinned (OpenSpec.ofChange fnExactPolicyEvalSpec)

/-- ITS FALSE NEIGHBOUR: 'it returns false'. Refute it at one input. -/
def fnExactPolicyEvalWrong : ChangeSpec := { name := "fnExactPolicyEval", fn := fun _ => fun
  | [d1, d2] => { results := [.lit (.bool false)], args := [d1, d2] }
  | _ => none }
def FnExactPolicyEvalWrongFalsely : Prop := fnExactPolicyEvalRow.holds Try.pinned (OpenSpec.ofChange fnExactPolicyEvalWrong)

/-- 'laws.FnExactPolicyText': WHATEVER THE INPUT: true; the input reads as it did. -/
def fnExactPolicyTextSpec : ChangeSpec := { name := "fnExactPolicyText", fn := fun _ => fun
  | [d] => { results := [.lit (.bool true)], args := [d] }
  | _ => none }
def fnExactPolicyTextRow : OpenClaim := { program := "ytaalegjhhpfhbaa", sum := "0080e1ad9b1b902f52e8b32c8abb3522a217d7db6cb830283a459da04c1bec08", func := "loop.example/g00279/laws.FnExactPolicyText", spec := "fnExactPolicyText", unfollowed := true, recurses := true, apart := false }
def FnExactPolicyTextSaid : Prop := fnExactPolicyTextRow.holds Try.pinned (OpenSpec.ofChange fnExactPolicyTextSpec)

/-- ITS FALSE NEIGHBOUR: 'it returns false'. Refute it at one input. -/
def fnExactPolicyTextWrong : ChangeSpec := { name := "fnExactPolicyText", fn := fun _ => fun
  | [d] => { results := [.lit (.bool false)], args := [d] }
  | _ => none }
def FnExactPolicyTextWrongFalsely : Prop := fnExactPolicyTextRow.holds Try.pinned (OpenSpec.ofChange fnExactPolicyTextWrong)

/-- 'laws.FnMorgan': WHATEVER THE INPUT: true; the input reads as it did. -/
def fnMorganSpec : ChangeSpec := { name := "fnMorgan", fn := fun _ => fun
  | [d1, d2] => { results := [.lit (.bool true)], args := [d1, d2] }
  | _ => none }
def fnMorganRow : OpenClaim := { program := "ytaalegjhhpfhbaa", sum := "0080e1ad9b1b902f52e8b32c8abb3522a217d7db6cb830283a459da04c1bec08", func := "loop.example/g00279/laws.FnMorgan", spec := "fnMorgan", unfollowed := true, recurses := true, apart := false }
def FnMorganSaid : Prop := fnMorganRow.holds Try.pinned (OpenSpec.ofChange fnMorganSpec)

/-- ITS FALSE NEIGHBOUR: 'it returns false'. Refute it at one input. -/
def fnMorganWrong : ChangeSpec := { name := "fnMorgan", fn := fun _ => fun
  | [d1, d2] => { results := [.lit (.bool false)], args := [d1, d2] }
  | _ => none }
def FnMorganWrongFalsely : Prop := fnMorganRow.holds Try.pinned (OpenSpec.ofChange fnMorganWrong)

/-- 'laws.FnExactRootRead': WHATEVER THE INPUT: true; the input reads as it did. -/
def fnExactRootReadSpec : ChangeSpec := { name := "fnExactRootRead", fn := fun _ => fun
  | [d] => { results := [.lit (.bool true)], args := [d] }
  | _ => none }
def fnExactRootReadRow : OpenClaim := { program := "ytaalegjhhpfhbaa", sum := "0080e1ad9b1b902f52e8b32c8abb3522a217d7db6cb830283a459da04c1bec08", func := "loop.example/g00279/laws.FnExactRootRead", spec := "fnExactRootRead", unfollowed := true, recurses := true, apart := false }
def FnExactRootReadSaid : Prop := fnExactRootReadRow.holds Try.pinned (OpenSpec.ofChange fnExactRootReadSpec)

/-- ITS FALSE NEIGHBOUR: 'it returns false'. Refute it at one input. -/
def fnExactRootReadWrong : ChangeSpec := { name := "fnExactRootRead", fn := fun _ => fun
  | [d] => { results := [.lit (.bool false)], args := [d] }
  | _ => none }
def FnExactRootReadWrongFalsely : Prop := fnExactRootReadRow.holds Try.pinned (OpenSpec.ofChange fnExactRootReadWrong)

/-- 'laws.FnManifest': WHATEVER THE INPUT: true; the input reads as it did. -/
def fnManifestSpec : ChangeSpec := { name := "fnManifest", fn := fun _ => fun
  | [d1, d2] => { results := [.lit (.bool true)], args := [d1, d2] }
  | _ => none }
def fnManifestRow : OpenClaim := { program := "ytaalegjhhpfhbaa", sum := "0080e1ad9b1b902f52e8b32c8abb3522a217d7db6cb830283a459da04c1bec08", func := "loop.example/g00279/laws.FnManifest", spec := "fnManifest", unfollowed := true, recurses := true, apart := false }
def FnManifestSaid : Prop := fnManifestRow.holds Try.pinned (OpenSpec.ofChange fnManifestSpec)

/-- ITS FALSE NEIGHBOUR: 'it returns false'. Refute it at one input. -/
def fnManifestWrong : ChangeSpec := { name := "fnManifest", fn := fun _ => fun
  | [d1, d2] => { results := [.lit (.bool false)], args := [d1, d2] }
  | _ => none }
def FnManifestWrongFalsely : Prop := fnManifestRow.holds Try.pinned (OpenSpec.ofChange fnManifestWrong)

/-- 'laws.FnSigned': WHATEVER THE INPUT: true; the input reads as it did. -/
def fnSignedSpec : ChangeSpec := { name := "fnSigned", fn := fun _ => fun
  | [d1, d2] => { results := [.lit (.bool true)], args := [d1, d2] }
  | _ => none }
def fnSignedRow : OpenClaim := { program := "ytaalegjhhpfhbaa", sum := "0080e1ad9b1b902f52e8b32c8abb3522a217d7db6cb830283a459da04c1bec08", func := "loop.example/g00279/laws.FnSigned", spec := "fnSigned", unfollowed := true, recurses := true, apart := false }
def FnSignedSaid : Prop := fnSignedRow.holds Try.pinned (OpenSpec.ofChange fnSignedSpec)

/-- ITS FALSE NEIGHBOUR: 'it returns false'. Refute it at one input. -/
def fnSignedWrong : ChangeSpec := { name := "fnSigned", fn := fun _ => fun
  | [d1, d2] => { results := [.lit (.bool false)], args := [d1, d2] }
  | _ => none }
def FnSignedWrongFalsely : Prop := fnSignedRow.holds Try.pinned (OpenSpec.ofChange fnSignedWrong)

/-- 'laws.FnExactOriginRoot': WHATEVER THE INPUT: true; the input reads as it did. -/
def fnExactOriginRootSpec : ChangeSpec := { name := "fnExactOriginRoot", fn := fun _ => fun
  | [d1, d2] => { results := [.lit (.bool true)], args := [d1, d2] }
  | _ => none }
def fnExactOriginRootRow : OpenClaim := { program := "ytaalegjhhpfhbaa", sum := "0080e1ad9b1b902f52e8b32c8abb3522a217d7db6cb830283a459da04c1bec08", func := "loop.example/g00279/laws.FnExactOriginRoot", spec := "fnExactOriginRoot", recurses := true, apart := false }
def FnExactOriginRootSaid : Prop := fnExactOriginRootRow.holds Try.pinned (OpenSpec.ofChange fnExactOriginRootSpec)

/-- ITS FALSE NEIGHBOUR: 'it returns false'. Refute it at one input. -/
def fnExactOriginRootWrong : ChangeSpec := { name := "fnExactOriginRoot", fn := fun _ => fun
  | [d1, d2] => { results := [.lit (.bool false)], args := [d1, d2] }
  | _ => none }
def FnExactOriginRootWrongFalsely : Prop := fnExactOriginRootRow.holds Try.pinned (OpenSpec.ofChange fnExactOriginRootWrong)

/- THE SECOND FORM. 'bulk': how many values and letters a reading holds, each counted each time it is reached (what is shared counts as often as it is met; a slice's spare places count too). A statement '..UptoSaid' is the law's where the arguments, and the package variables that the reading takes, are together of bulk at most 1048576: NARROWER than '..Said'. Prove '..Said' where nothing that the law and all that it calls make is longer than what came in: it says more and counts as full. Else prove '..UptoSaid'. A law counts once. -/
mutual
def uptoBulk {H : Type} : DataW H → Nat
  | .lit (.string bytes) => bytes.length + 1
  | .lit _ => 1
  | .nil => 1
  | .ptr d => uptoBulk d + 1
  | .slice elems spare => uptoBulkAll elems + uptoBulkAll spare + 1
  | .agg parts => uptoBulkAll parts + 1
  | .iface _ d => uptoBulk d + 1
  | .map entries => uptoBulkEntries entries + 1
  | .held _ => 1
def uptoBulkAll {H : Type} : List (DataW H) → Nat
  | [] => 0
  | d :: r => uptoBulk d + uptoBulkAll r
def uptoBulkEntries {H : Type} : List (Lit × DataW H) → Nat
  | [] => 0
  | x :: r => uptoBulkEntry x + uptoBulkEntries r
def uptoBulkEntry {H : Type} : Lit × DataW H → Nat
  | (.string bytes, d) => bytes.length + uptoBulk d + 1
  | (_, d) => uptoBulk d + 1
 end
def uptoSmall : (H : Type) → List (DataW H) → Bool := fun _ ds => decide (uptoBulkAll ds ≤ 1048576)
def OpenSpec.upto (s : _root_.Go.ChangeSpec) : _root_.Go.OpenSpec := { _root_.Go.OpenSpec.ofChange s with cond := some uptoSmall }

/-- 'laws.FnExactPolicyRight', WHERE WHAT IT READS IS OF BULK AT MOST 1048576: true; the input reads as it did. -/
def fnExactPolicyRightUptoRow : OpenClaim := { program := "ytaalegjhhpfhbaa", sum := "0080e1ad9b1b902f52e8b32c8abb3522a217d7db6cb830283a459da04c1bec08", func := "loop.example/g00279/laws.FnExactPolicyRight", spec := "fnExactPolicyRight", apart := false, narrowed := true }
def FnExactPolicyRightUptoSaid : Prop := fnExactPolicyRightUptoRow.holds Try.pinned (OpenSpec.upto fnExactPolicyRightSpec)

/-- 'laws.FnExactPolicyEval', WHERE WHAT IT READS IS OF BULK AT MOST 1048576: true; the input reads as it did. -/
def fnExactPolicyEvalUptoRow : OpenClaim := { program := "ytaalegjhhpfhbaa", sum := "0080e1ad9b1b902f52e8b32c8abb3522a217d7db6cb830283a459da04c1bec08", func := "loop.example/g00279/laws.FnExactPolicyEval", spec := "fnExactPolicyEval", unfollowed := true, recurses := true, apart := false, narrowed := true }
def FnExactPolicyEvalUptoSaid : Prop := fnExactPolicyEvalUptoRow.holds Try.pinned (OpenSpec.upto fnExactPolicyEvalSpec)

/-- 'laws.FnExactPolicyText', WHERE WHAT IT READS IS OF BULK AT MOST 1048576: true; the input reads as it did. -/
def fnExactPolicyTextUptoRow : OpenClaim := { program := "ytaalegjhhpfhbaa", sum := "0080e1ad9b1b902f52e8b32c8abb3522a217d7db6cb830283a459da04c1bec08", func := "loop.example/g00279/laws.FnExactPolicyText", spec := "fnExactPolicyText", unfollowed := true, recurses := true, apart := false, narrowed := true }
def FnExactPolicyTextUptoSaid : Prop := fnExactPolicyTextUptoRow.holds Try.pinned (OpenSpec.upto fnExactPolicyTextSpec)

/-- 'laws.FnMorgan', WHERE WHAT IT READS IS OF BULK AT MOST 1048576: true; the input reads as it did. -/
def fnMorganUptoRow : OpenClaim := { program := "ytaalegjhhpfhbaa", sum := "0080e1ad9b1b902f52e8b32c8abb3522a217d7db6cb830283a459da04c1bec08", func := "loop.example/g00279/laws.FnMorgan", spec := "fnMorgan", unfollowed := true, recurses := true, apart := false, narrowed := true }
def FnMorganUptoSaid : Prop := fnMorganUptoRow.holds Try.pinned (OpenSpec.upto fnMorganSpec)

/-- 'laws.FnExactRootRead', WHERE WHAT IT READS IS OF BULK AT MOST 1048576: true; the input reads as it did. -/
def fnExactRootReadUptoRow : OpenClaim := { program := "ytaalegjhhpfhbaa", sum := "0080e1ad9b1b902f52e8b32c8abb3522a217d7db6cb830283a459da04c1bec08", func := "loop.example/g00279/laws.FnExactRootRead", spec := "fnExactRootRead", unfollowed := true, recurses := true, apart := false, narrowed := true }
def FnExactRootReadUptoSaid : Prop := fnExactRootReadUptoRow.holds Try.pinned (OpenSpec.upto fnExactRootReadSpec)

/-- 'laws.FnManifest', WHERE WHAT IT READS IS OF BULK AT MOST 1048576: true; the input reads as it did. -/
def fnManifestUptoRow : OpenClaim := { program := "ytaalegjhhpfhbaa", sum := "0080e1ad9b1b902f52e8b32c8abb3522a217d7db6cb830283a459da04c1bec08", func := "loop.example/g00279/laws.FnManifest", spec := "fnManifest", unfollowed := true, recurses := true, apart := false, narrowed := true }
def FnManifestUptoSaid : Prop := fnManifestUptoRow.holds Try.pinned (OpenSpec.upto fnManifestSpec)

/-- 'laws.FnSigned', WHERE WHAT IT READS IS OF BULK AT MOST 1048576: true; the input reads as it did. -/
def fnSignedUptoRow : OpenClaim := { program := "ytaalegjhhpfhbaa", sum := "0080e1ad9b1b902f52e8b32c8abb3522a217d7db6cb830283a459da04c1bec08", func := "loop.example/g00279/laws.FnSigned", spec := "fnSigned", unfollowed := true, recurses := true, apart := false, narrowed := true }
def FnSignedUptoSaid : Prop := fnSignedUptoRow.holds Try.pinned (OpenSpec.upto fnSignedSpec)

/-- 'laws.FnExactOriginRoot', WHERE WHAT IT READS IS OF BULK AT MOST 1048576: true; the input reads as it did. -/
def fnExactOriginRootUptoRow : OpenClaim := { program := "ytaalegjhhpfhbaa", sum := "0080e1ad9b1b902f52e8b32c8abb3522a217d7db6cb830283a459da04c1bec08", func := "loop.example/g00279/laws.FnExactOriginRoot", spec := "fnExactOriginRoot", recurses := true, apart := false, narrowed := true }
def FnExactOriginRootUptoSaid : Prop := fnExactOriginRootUptoRow.holds Try.pinned (OpenSpec.upto fnExactOriginRootSpec)

end Rows
end Go.Proofs.Ytaalegjhhpfhbaa
