/-
  No cell of these rows narrows 'for every input' (looked for: loops, veiled, ifaces, maps, wideKeys, modest, calm, conditions, laid).
  DERIVED. THE GIVEN ROWS OF THIS SEAT. 7 by the template 'for every input the law returns true; each argument reads behind the call as it read before'; 0 by the template 'total and deterministic' (their statements: YtdfglpbappeoaaaTotals.lean).
  GIVEN WITH THE SEED: the statements are not yours to turn. If you find one false, say at which input.
  Laid BY PROGRAM, IN A SANDBOX (cutbox-rows.mjs): the forced cells as the released guide's own fill.sh prints them over the translation 56c5cfd65af45a53… (all of the seat's roots in one cut). By AI agents, Wed Nov 11 2026. No macro, syntax, notation, axiom, sorry.
-/
import Derived.Test.YtdfglpbappeoaaaChecked
import GoSem.Claim
import GoSem.ClaimJoined
import GoSem.ClaimMapViews
import Derived.JoinedTies
import Derived.KernelRfl
namespace Go.Proofs.Ytdfglpbappeoaaa
/- THE CELL 'sum', in the pinned program and in every row, IS THE sha256 OF THE DUMP (.gsa) THAT YtdfglpbappeoaaaProg.lean LOADS. Nothing in Lean hashes anything: it is a label: what it is worth is what the hold of that sum in a sandbox is worth. -/
noncomputable def Try.pinned : Pinned := { name := "ytdfglpbappeoaaa", sum := "56c5cfd65af45a53c6de1a9c6ddb38c926ce48e76fef77fa66f7c2ecf5dc0274", checked := Try.checked }
namespace Rows
def none {H : Type} : Left H := { results := [], args := [] }

/-- 'laws.FnExactTrustNew': WHATEVER THE INPUT: true; the input reads as it did. -/
def fnExactTrustNewSpec : ChangeSpec := { name := "fnExactTrustNew", fn := fun _ => fun
  | [d] => { results := [.lit (.bool true)], args := [d] }
  | _ => none }
def fnExactTrustNewRow : OpenClaim := { program := "ytdfglpbappeoaaa", sum := "56c5cfd65af45a53c6de1a9c6ddb38c926ce48e76fef77fa66f7c2ecf5dc0274", func := "loop.example/g00279/laws.FnExactTrustNew", spec := "fnExactTrustNew", apart := false }
def FnExactTrustNewSaid : Prop := fnExactTrustNewRow.holds Try.pinned (OpenSpec.ofChange fnExactTrustNewSpec)

/-- ITS FALSE NEIGHBOUR: 'it returns false'. Refute it at one input. -/
def fnExactTrustNewWrong : ChangeSpec := { name := "fnExactTrustNew", fn := fun _ => fun
  | [d] => { results := [.lit (.bool false)], args := [d] }
  | _ => none }
def FnExactTrustNewWrongFalsely : Prop := fnExactTrustNewRow.holds Try.pinned (OpenSpec.ofChange fnExactTrustNewWrong)

/-- 'laws.FnExactRootRead': WHATEVER THE INPUT: true; the input reads as it did. -/
def fnExactRootReadSpec : ChangeSpec := { name := "fnExactRootRead", fn := fun _ => fun
  | [d] => { results := [.lit (.bool true)], args := [d] }
  | _ => none }
def fnExactRootReadRow : OpenClaim := { program := "ytdfglpbappeoaaa", sum := "56c5cfd65af45a53c6de1a9c6ddb38c926ce48e76fef77fa66f7c2ecf5dc0274", func := "loop.example/g00279/laws.FnExactRootRead", spec := "fnExactRootRead", unfollowed := true, recurses := true, apart := false }
def FnExactRootReadSaid : Prop := fnExactRootReadRow.holds Try.pinned (OpenSpec.ofChange fnExactRootReadSpec)

/-- ITS FALSE NEIGHBOUR: 'it returns false'. Refute it at one input. -/
def fnExactRootReadWrong : ChangeSpec := { name := "fnExactRootRead", fn := fun _ => fun
  | [d] => { results := [.lit (.bool false)], args := [d] }
  | _ => none }
def FnExactRootReadWrongFalsely : Prop := fnExactRootReadRow.holds Try.pinned (OpenSpec.ofChange fnExactRootReadWrong)

/-- 'laws.FnExactOriginRoot': WHATEVER THE INPUT: true; the input reads as it did. -/
def fnExactOriginRootSpec : ChangeSpec := { name := "fnExactOriginRoot", fn := fun _ => fun
  | [d1, d2] => { results := [.lit (.bool true)], args := [d1, d2] }
  | _ => none }
def fnExactOriginRootRow : OpenClaim := { program := "ytdfglpbappeoaaa", sum := "56c5cfd65af45a53c6de1a9c6ddb38c926ce48e76fef77fa66f7c2ecf5dc0274", func := "loop.example/g00279/laws.FnExactOriginRoot", spec := "fnExactOriginRoot", recurses := true, apart := false }
def FnExactOriginRootSaid : Prop := fnExactOriginRootRow.holds Try.pinned (OpenSpec.ofChange fnExactOriginRootSpec)

/-- ITS FALSE NEIGHBOUR: 'it returns false'. Refute it at one input. -/
def fnExactOriginRootWrong : ChangeSpec := { name := "fnExactOriginRoot", fn := fun _ => fun
  | [d1, d2] => { results := [.lit (.bool false)], args := [d1, d2] }
  | _ => none }
def FnExactOriginRootWrongFalsely : Prop := fnExactOriginRootRow.holds Try.pinned (OpenSpec.ofChange fnExactOriginRootWrong)

/-- 'laws.FnExactHeadBytes': WHATEVER THE INPUT: true; the input reads as it did. -/
def fnExactHeadBytesSpec : ChangeSpec := { name := "fnExactHeadBytes", fn := fun _ => fun
  | [d] => { results := [.lit (.bool true)], args := [d] }
  | _ => none }
def fnExactHeadBytesRow : OpenClaim := { program := "ytdfglpbappeoaaa", sum := "56c5cfd65af45a53c6de1a9c6ddb38c926ce48e76fef77fa66f7c2ecf5dc0274", func := "loop.example/g00279/laws.FnExactHeadBytes", spec := "fnExactHeadBytes", apart := false }
def FnExactHeadBytesSaid : Prop := fnExactHeadBytesRow.holds Try.pinned (OpenSpec.ofChange fnExactHeadBytesSpec)

/-- ITS FALSE NEIGHBOUR: 'it returns false'. Refute it at one input. -/
def fnExactHeadBytesWrong : ChangeSpec := { name := "fnExactHeadBytes", fn := fun _ => fun
  | [d] => { results := [.lit (.bool false)], args := [d] }
  | _ => none }
def FnExactHeadBytesWrongFalsely : Prop := fnExactHeadBytesRow.holds Try.pinned (OpenSpec.ofChange fnExactHeadBytesWrong)

/-- 'laws.FnExactHeadRead': WHATEVER THE INPUT: true; the input reads as it did. -/
def fnExactHeadReadSpec : ChangeSpec := { name := "fnExactHeadRead", fn := fun _ => fun
  | [d] => { results := [.lit (.bool true)], args := [d] }
  | _ => none }
def fnExactHeadReadRow : OpenClaim := { program := "ytdfglpbappeoaaa", sum := "56c5cfd65af45a53c6de1a9c6ddb38c926ce48e76fef77fa66f7c2ecf5dc0274", func := "loop.example/g00279/laws.FnExactHeadRead", spec := "fnExactHeadRead", unfollowed := true, recurses := true, apart := false }
def FnExactHeadReadSaid : Prop := fnExactHeadReadRow.holds Try.pinned (OpenSpec.ofChange fnExactHeadReadSpec)

/-- ITS FALSE NEIGHBOUR: 'it returns false'. Refute it at one input. -/
def fnExactHeadReadWrong : ChangeSpec := { name := "fnExactHeadRead", fn := fun _ => fun
  | [d] => { results := [.lit (.bool false)], args := [d] }
  | _ => none }
def FnExactHeadReadWrongFalsely : Prop := fnExactHeadReadRow.holds Try.pinned (OpenSpec.ofChange fnExactHeadReadWrong)

/-- 'laws.FnExactEntryText': WHATEVER THE INPUT: true; the input reads as it did. -/
def fnExactEntryTextSpec : ChangeSpec := { name := "fnExactEntryText", fn := fun _ => fun
  | [d1, d2, d3] => { results := [.lit (.bool true)], args := [d1, d2, d3] }
  | _ => none }
def fnExactEntryTextRow : OpenClaim := { program := "ytdfglpbappeoaaa", sum := "56c5cfd65af45a53c6de1a9c6ddb38c926ce48e76fef77fa66f7c2ecf5dc0274", func := "loop.example/g00279/laws.FnExactEntryText", spec := "fnExactEntryText", apart := false }
def FnExactEntryTextSaid : Prop := fnExactEntryTextRow.holds Try.pinned (OpenSpec.ofChange fnExactEntryTextSpec)

/-- ITS FALSE NEIGHBOUR: 'it returns false'. Refute it at one input. -/
def fnExactEntryTextWrong : ChangeSpec := { name := "fnExactEntryText", fn := fun _ => fun
  | [d1, d2, d3] => { results := [.lit (.bool false)], args := [d1, d2, d3] }
  | _ => none }
def FnExactEntryTextWrongFalsely : Prop := fnExactEntryTextRow.holds Try.pinned (OpenSpec.ofChange fnExactEntryTextWrong)

/-- 'laws.FnSigned': WHATEVER THE INPUT: true; the input reads as it did. -/
def fnSignedSpec : ChangeSpec := { name := "fnSigned", fn := fun _ => fun
  | [d1, d2] => { results := [.lit (.bool true)], args := [d1, d2] }
  | _ => none }
def fnSignedRow : OpenClaim := { program := "ytdfglpbappeoaaa", sum := "56c5cfd65af45a53c6de1a9c6ddb38c926ce48e76fef77fa66f7c2ecf5dc0274", func := "loop.example/g00279/laws.FnSigned", spec := "fnSigned", unfollowed := true, recurses := true, apart := false }
def FnSignedSaid : Prop := fnSignedRow.holds Try.pinned (OpenSpec.ofChange fnSignedSpec)

/-- ITS FALSE NEIGHBOUR: 'it returns false'. Refute it at one input. -/
def fnSignedWrong : ChangeSpec := { name := "fnSigned", fn := fun _ => fun
  | [d1, d2] => { results := [.lit (.bool false)], args := [d1, d2] }
  | _ => none }
def FnSignedWrongFalsely : Prop := fnSignedRow.holds Try.pinned (OpenSpec.ofChange fnSignedWrong)

/- THE SECOND FORM. 'bulk': how many values and letters a reading holds, each counted each time it is reached (what is shared counts as often as it is met; a slice's spare places count too). A statement '..UptoSaid' is the law's where the arguments, and the package variables that the reading takes, are together of bulk at most 1048576: NARROWER than '..Said'. Prove '..Said' where nothing that the law and all that it calls make is longer than what came in: it says more and counts as full. Else prove '..UptoSaid'. A law counts once. -/
mutual
def uptoBulk {H : Type} : DataW H → Nat
  | .lit (.string bytes) => bytes.length + 1
  | .lit _ => 1
  | .nil => 1
  | .ptr d => uptoBulk d + 1
  | .slice elems spare => uptoBulkAll elems + uptoBulkAll spare + 1
  | .agg parts => uptoBulkAll parts + 1
  | .iface _ d => uptoBulk d + 1
  | .map entries => uptoBulkEntries entries + 1
  | .held _ => 1
def uptoBulkAll {H : Type} : List (DataW H) → Nat
  | [] => 0
  | d :: r => uptoBulk d + uptoBulkAll r
def uptoBulkEntries {H : Type} : List (Lit × DataW H) → Nat
  | [] => 0
  | x :: r => uptoBulkEntry x + uptoBulkEntries r
def uptoBulkEntry {H : Type} : Lit × DataW H → Nat
  | (.string bytes, d) => bytes.length + uptoBulk d + 1
  | (_, d) => uptoBulk d + 1
 end
def uptoSmall : (H : Type) → List (DataW H) → Bool := fun _ ds => decide (uptoBulkAll ds ≤ 1048576)
def OpenSpec.upto (s : _root_.Go.ChangeSpec) : _root_.Go.OpenSpec := { _root_.Go.OpenSpec.ofChange s with cond := some uptoSmall }

/-- 'laws.FnExactTrustNew', WHERE WHAT IT READS IS OF BULK AT MOST 1048576: true; the input reads as it did. -/
def fnExactTrustNewUptoRow : OpenClaim := { program := "ytdfglpbappeoaaa", sum := "56c5cfd65af45a53c6de1a9c6ddb38c926ce48e76fef77fa66f7c2ecf5dc0274", func := "loop.example/g00279/laws.FnExactTrustNew", spec := "fnExactTrustNew", apart := false, narrowed := true }
def FnExactTrustNewUptoSaid : Prop := fnExactTrustNewUptoRow.holds Try.pinned (OpenSpec.upto fnExactTrustNewSpec)

/-- 'laws.FnExactRootRead', WHERE WHAT IT READS IS OF BULK AT MOST 1048576: true; the input reads as it did. -/
def fnExactRootReadUptoRow : OpenClaim := { program := "ytdfglpbappeoaaa", sum := "56c5cfd65af45a53c6de1a9c6ddb38c926ce48e76fef77fa66f7c2ecf5dc0274", func := "loop.example/g00279/laws.FnExactRootRead", spec := "fnExactRootRead", unfollowed := true, recurses := true, apart := false, narrowed := true }
def FnExactRootReadUptoSaid : Prop := fnExactRootReadUptoRow.holds Try.pinned (OpenSpec.upto fnExactRootReadSpec)

/-- 'laws.FnExactOriginRoot', WHERE WHAT IT READS IS OF BULK AT MOST 1048576: true; the input reads as it did. -/
def fnExactOriginRootUptoRow : OpenClaim := { program := "ytdfglpbappeoaaa", sum := "56c5cfd65af45a53c6de1a9c6ddb38c926ce48e76fef77fa66f7c2ecf5dc0274", func := "loop.example/g00279/laws.FnExactOriginRoot", spec := "fnExactOriginRoot", recurses := true, apart := false, narrowed := true }
def FnExactOriginRootUptoSaid : Prop := fnExactOriginRootUptoRow.holds Try.pinned (OpenSpec.upto fnExactOriginRootSpec)

/-- 'laws.FnExactHeadBytes', WHERE WHAT IT READS IS OF BULK AT MOST 1048576: true; the input reads as it did. -/
def fnExactHeadBytesUptoRow : OpenClaim := { program := "ytdfglpbappeoaaa", sum := "56c5cfd65af45a53c6de1a9c6ddb38c926ce48e76fef77fa66f7c2ecf5dc0274", func := "loop.example/g00279/laws.FnExactHeadBytes", spec := "fnExactHeadBytes", apart := false, narrowed := true }
def FnExactHeadBytesUptoSaid : Prop := fnExactHeadBytesUptoRow.holds Try.pinned (OpenSpec.upto fnExactHeadBytesSpec)

/-- 'laws.FnExactHeadRead', WHERE WHAT IT READS IS OF BULK AT MOST 1048576: true; the input reads as it did. -/
def fnExactHeadReadUptoRow : OpenClaim := { program := "ytdfglpbappeoaaa", sum := "56c5cfd65af45a53c6de1a9c6ddb38c926ce48e76fef77fa66f7c2ecf5dc0274", func := "loop.example/g00279/laws.FnExactHeadRead", spec := "fnExactHeadRead", unfollowed := true, recurses := true, apart := false, narrowed := true }
def FnExactHeadReadUptoSaid : Prop := fnExactHeadReadUptoRow.holds Try.pinned (OpenSpec.upto fnExactHeadReadSpec)

/-- 'laws.FnExactEntryText', WHERE WHAT IT READS IS OF BULK AT MOST 1048576: true; the input reads as it did. -/
def fnExactEntryTextUptoRow : OpenClaim := { program := "ytdfglpbappeoaaa", sum := "56c5cfd65af45a53c6de1a9c6ddb38c926ce48e76fef77fa66f7c2ecf5dc0274", func := "loop.example/g00279/laws.FnExactEntryText", spec := "fnExactEntryText", apart := false, narrowed := true }
def FnExactEntryTextUptoSaid : Prop := fnExactEntryTextUptoRow.holds Try.pinned (OpenSpec.upto fnExactEntryTextSpec)

/-- 'laws.FnSigned', WHERE WHAT IT READS IS OF BULK AT MOST 1048576: true; the input reads as it did. -/
def fnSignedUptoRow : OpenClaim := { program := "ytdfglpbappeoaaa", sum := "56c5cfd65af45a53c6de1a9c6ddb38c926ce48e76fef77fa66f7c2ecf5dc0274", func := "loop.example/g00279/laws.FnSigned", spec := "fnSigned", unfollowed := true, recurses := true, apart := false, narrowed := true }
def FnSignedUptoSaid : Prop := fnSignedUptoRow.holds Try.pinned (OpenSpec.upto fnSignedSpec)

end Rows
end Go.Proofs.Ytdfglpbappeoaaa
