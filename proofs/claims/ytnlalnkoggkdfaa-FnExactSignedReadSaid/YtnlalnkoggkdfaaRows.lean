/-
  No cell of these rows narrows 'for every input' (looked for: loops, veiled, ifaces, maps, wideKeys, modest, calm, conditions, laid).
  DERIVED. THE GIVEN ROWS OF THIS SEAT. 11 by the template 'for every input the law returns true; each argument reads behind the call as it read before'; 0 by the template 'total and deterministic' (their statements: YtnlalnkoggkdfaaTotals.lean).
  GIVEN WITH THE SEED: the statements are not yours to turn. If you find one false, say at which input.
  Laid BY PROGRAM, IN A SANDBOX (cutbox-rows.mjs): the forced cells as the released guide's own fill.sh prints them over the translation e4317080fa7e5774… (all of the seat's roots in one cut). By AI agents, Wed Nov 11 2026. No macro, syntax, notation, axiom, sorry.
-/
import Derived.Test.YtnlalnkoggkdfaaChecked
import GoSem.Claim
import GoSem.ClaimJoined
import GoSem.ClaimMapViews
import Derived.JoinedTies
import Derived.KernelRfl
namespace Go.Proofs.Ytnlalnkoggkdfaa
/- THE CELL 'sum', in the pinned program and in every row, IS THE sha256 OF THE DUMP (.gsa) THAT YtnlalnkoggkdfaaProg.lean LOADS. Nothing in Lean hashes anything: it is a label: what it is worth is what the hold of that sum in a sandbox is worth. -/
noncomputable def Try.pinned : Pinned := { name := "ytnlalnkoggkdfaa", sum := "e4317080fa7e577408a409bd78bf5521f0204979fcde7f6871028c93153d36e1", checked := Try.checked }
namespace Rows
def none {H : Type} : Left H := { results := [], args := [] }

/-- 'laws.FnExactRootRight': WHATEVER THE INPUT: true; the input reads as it did. -/
def fnExactRootRightSpec : ChangeSpec := { name := "fnExactRootRight", fn := fun _ => fun
  | [d] => { results := [.lit (.bool true)], args := [d] }
  | _ => none }
def fnExactRootRightRow : OpenClaim := { program := "ytnlalnkoggkdfaa", sum := "e4317080fa7e577408a409bd78bf5521f0204979fcde7f6871028c93153d36e1", func := "loop.example/g00279/laws.FnExactRootRight", spec := "fnExactRootRight", apart := false }
def FnExactRootRightSaid : Prop := fnExactRootRightRow.holds Try.pinned (OpenSpec.ofChange fnExactRootRightSpec)

/-- ITS FALSE NEIGHBOUR: 'it returns false'. Refute it at one input. -/
def fnExactRootRightWrong : ChangeSpec := { name := "fnExactRootRight", fn := fun _ => fun
  | [d] => { results := [.lit (.bool false)], args := [d] }
  | _ => none }
def FnExactRootRightWrongFalsely : Prop := fnExactRootRightRow.holds Try.pinned (OpenSpec.ofChange fnExactRootRightWrong)

/-- 'laws.FnExactRootBytes': WHATEVER THE INPUT: true; the input reads as it did. -/
def fnExactRootBytesSpec : ChangeSpec := { name := "fnExactRootBytes", fn := fun _ => fun
  | [d] => { results := [.lit (.bool true)], args := [d] }
  | _ => none }
def fnExactRootBytesRow : OpenClaim := { program := "ytnlalnkoggkdfaa", sum := "e4317080fa7e577408a409bd78bf5521f0204979fcde7f6871028c93153d36e1", func := "loop.example/g00279/laws.FnExactRootBytes", spec := "fnExactRootBytes", apart := false }
def FnExactRootBytesSaid : Prop := fnExactRootBytesRow.holds Try.pinned (OpenSpec.ofChange fnExactRootBytesSpec)

/-- ITS FALSE NEIGHBOUR: 'it returns false'. Refute it at one input. -/
def fnExactRootBytesWrong : ChangeSpec := { name := "fnExactRootBytes", fn := fun _ => fun
  | [d] => { results := [.lit (.bool false)], args := [d] }
  | _ => none }
def FnExactRootBytesWrongFalsely : Prop := fnExactRootBytesRow.holds Try.pinned (OpenSpec.ofChange fnExactRootBytesWrong)

/-- 'laws.FnExactTargetsRight': WHATEVER THE INPUT: true; the input reads as it did. -/
def fnExactTargetsRightSpec : ChangeSpec := { name := "fnExactTargetsRight", fn := fun _ => fun
  | [d] => { results := [.lit (.bool true)], args := [d] }
  | _ => none }
def fnExactTargetsRightRow : OpenClaim := { program := "ytnlalnkoggkdfaa", sum := "e4317080fa7e577408a409bd78bf5521f0204979fcde7f6871028c93153d36e1", func := "loop.example/g00279/laws.FnExactTargetsRight", spec := "fnExactTargetsRight", apart := false }
def FnExactTargetsRightSaid : Prop := fnExactTargetsRightRow.holds Try.pinned (OpenSpec.ofChange fnExactTargetsRightSpec)

/-- ITS FALSE NEIGHBOUR: 'it returns false'. Refute it at one input. -/
def fnExactTargetsRightWrong : ChangeSpec := { name := "fnExactTargetsRight", fn := fun _ => fun
  | [d] => { results := [.lit (.bool false)], args := [d] }
  | _ => none }
def FnExactTargetsRightWrongFalsely : Prop := fnExactTargetsRightRow.holds Try.pinned (OpenSpec.ofChange fnExactTargetsRightWrong)

/-- 'laws.FnExactTargetsBytes': WHATEVER THE INPUT: true; the input reads as it did. -/
def fnExactTargetsBytesSpec : ChangeSpec := { name := "fnExactTargetsBytes", fn := fun _ => fun
  | [d] => { results := [.lit (.bool true)], args := [d] }
  | _ => none }
def fnExactTargetsBytesRow : OpenClaim := { program := "ytnlalnkoggkdfaa", sum := "e4317080fa7e577408a409bd78bf5521f0204979fcde7f6871028c93153d36e1", func := "loop.example/g00279/laws.FnExactTargetsBytes", spec := "fnExactTargetsBytes", apart := false }
def FnExactTargetsBytesSaid : Prop := fnExactTargetsBytesRow.holds Try.pinned (OpenSpec.ofChange fnExactTargetsBytesSpec)

/-- ITS FALSE NEIGHBOUR: 'it returns false'. Refute it at one input. -/
def fnExactTargetsBytesWrong : ChangeSpec := { name := "fnExactTargetsBytes", fn := fun _ => fun
  | [d] => { results := [.lit (.bool false)], args := [d] }
  | _ => none }
def FnExactTargetsBytesWrongFalsely : Prop := fnExactTargetsBytesRow.holds Try.pinned (OpenSpec.ofChange fnExactTargetsBytesWrong)

/-- 'laws.FnExactLinkBytes': WHATEVER THE INPUT: true; the input reads as it did. -/
def fnExactLinkBytesSpec : ChangeSpec := { name := "fnExactLinkBytes", fn := fun _ => fun
  | [d1, d2] => { results := [.lit (.bool true)], args := [d1, d2] }
  | _ => none }
def fnExactLinkBytesRow : OpenClaim := { program := "ytnlalnkoggkdfaa", sum := "e4317080fa7e577408a409bd78bf5521f0204979fcde7f6871028c93153d36e1", func := "loop.example/g00279/laws.FnExactLinkBytes", spec := "fnExactLinkBytes", apart := false }
def FnExactLinkBytesSaid : Prop := fnExactLinkBytesRow.holds Try.pinned (OpenSpec.ofChange fnExactLinkBytesSpec)

/-- ITS FALSE NEIGHBOUR: 'it returns false'. Refute it at one input. -/
def fnExactLinkBytesWrong : ChangeSpec := { name := "fnExactLinkBytes", fn := fun _ => fun
  | [d1, d2] => { results := [.lit (.bool false)], args := [d1, d2] }
  | _ => none }
def FnExactLinkBytesWrongFalsely : Prop := fnExactLinkBytesRow.holds Try.pinned (OpenSpec.ofChange fnExactLinkBytesWrong)

/-- 'laws.FnExactSignedBytes': WHATEVER THE INPUT: true; the input reads as it did. -/
def fnExactSignedBytesSpec : ChangeSpec := { name := "fnExactSignedBytes", fn := fun _ => fun
  | [d] => { results := [.lit (.bool true)], args := [d] }
  | _ => none }
def fnExactSignedBytesRow : OpenClaim := { program := "ytnlalnkoggkdfaa", sum := "e4317080fa7e577408a409bd78bf5521f0204979fcde7f6871028c93153d36e1", func := "loop.example/g00279/laws.FnExactSignedBytes", spec := "fnExactSignedBytes", apart := false }
def FnExactSignedBytesSaid : Prop := fnExactSignedBytesRow.holds Try.pinned (OpenSpec.ofChange fnExactSignedBytesSpec)

/-- ITS FALSE NEIGHBOUR: 'it returns false'. Refute it at one input. -/
def fnExactSignedBytesWrong : ChangeSpec := { name := "fnExactSignedBytes", fn := fun _ => fun
  | [d] => { results := [.lit (.bool false)], args := [d] }
  | _ => none }
def FnExactSignedBytesWrongFalsely : Prop := fnExactSignedBytesRow.holds Try.pinned (OpenSpec.ofChange fnExactSignedBytesWrong)

/-- 'laws.FnSigned': WHATEVER THE INPUT: true; the input reads as it did. -/
def fnSignedSpec : ChangeSpec := { name := "fnSigned", fn := fun _ => fun
  | [d1, d2] => { results := [.lit (.bool true)], args := [d1, d2] }
  | _ => none }
def fnSignedRow : OpenClaim := { program := "ytnlalnkoggkdfaa", sum := "e4317080fa7e577408a409bd78bf5521f0204979fcde7f6871028c93153d36e1", func := "loop.example/g00279/laws.FnSigned", spec := "fnSigned", unfollowed := true, recurses := true, apart := false }
def FnSignedSaid : Prop := fnSignedRow.holds Try.pinned (OpenSpec.ofChange fnSignedSpec)

/-- ITS FALSE NEIGHBOUR: 'it returns false'. Refute it at one input. -/
def fnSignedWrong : ChangeSpec := { name := "fnSigned", fn := fun _ => fun
  | [d1, d2] => { results := [.lit (.bool false)], args := [d1, d2] }
  | _ => none }
def FnSignedWrongFalsely : Prop := fnSignedRow.holds Try.pinned (OpenSpec.ofChange fnSignedWrong)

/-- 'laws.FnExactRootRead': WHATEVER THE INPUT: true; the input reads as it did. -/
def fnExactRootReadSpec : ChangeSpec := { name := "fnExactRootRead", fn := fun _ => fun
  | [d] => { results := [.lit (.bool true)], args := [d] }
  | _ => none }
def fnExactRootReadRow : OpenClaim := { program := "ytnlalnkoggkdfaa", sum := "e4317080fa7e577408a409bd78bf5521f0204979fcde7f6871028c93153d36e1", func := "loop.example/g00279/laws.FnExactRootRead", spec := "fnExactRootRead", unfollowed := true, recurses := true, apart := false }
def FnExactRootReadSaid : Prop := fnExactRootReadRow.holds Try.pinned (OpenSpec.ofChange fnExactRootReadSpec)

/-- ITS FALSE NEIGHBOUR: 'it returns false'. Refute it at one input. -/
def fnExactRootReadWrong : ChangeSpec := { name := "fnExactRootRead", fn := fun _ => fun
  | [d] => { results := [.lit (.bool false)], args := [d] }
  | _ => none }
def FnExactRootReadWrongFalsely : Prop := fnExactRootReadRow.holds Try.pinned (OpenSpec.ofChange fnExactRootReadWrong)

/-- 'laws.FnExactTargetsRead': WHATEVER THE INPUT: true; the input reads as it did. -/
def fnExactTargetsReadSpec : ChangeSpec := { name := "fnExactTargetsRead", fn := fun _ => fun
  | [d] => { results := [.lit (.bool true)], args := [d] }
  | _ => none }
def fnExactTargetsReadRow : OpenClaim := { program := "ytnlalnkoggkdfaa", sum := "e4317080fa7e577408a409bd78bf5521f0204979fcde7f6871028c93153d36e1", func := "loop.example/g00279/laws.FnExactTargetsRead", spec := "fnExactTargetsRead", unfollowed := true, recurses := true, apart := false }
def FnExactTargetsReadSaid : Prop := fnExactTargetsReadRow.holds Try.pinned (OpenSpec.ofChange fnExactTargetsReadSpec)

/-- ITS FALSE NEIGHBOUR: 'it returns false'. Refute it at one input. -/
def fnExactTargetsReadWrong : ChangeSpec := { name := "fnExactTargetsRead", fn := fun _ => fun
  | [d] => { results := [.lit (.bool false)], args := [d] }
  | _ => none }
def FnExactTargetsReadWrongFalsely : Prop := fnExactTargetsReadRow.holds Try.pinned (OpenSpec.ofChange fnExactTargetsReadWrong)

/-- 'laws.FnExactLinkRead': WHATEVER THE INPUT: true; the input reads as it did. -/
def fnExactLinkReadSpec : ChangeSpec := { name := "fnExactLinkRead", fn := fun _ => fun
  | [d1, d2] => { results := [.lit (.bool true)], args := [d1, d2] }
  | _ => none }
def fnExactLinkReadRow : OpenClaim := { program := "ytnlalnkoggkdfaa", sum := "e4317080fa7e577408a409bd78bf5521f0204979fcde7f6871028c93153d36e1", func := "loop.example/g00279/laws.FnExactLinkRead", spec := "fnExactLinkRead", unfollowed := true, recurses := true, apart := false }
def FnExactLinkReadSaid : Prop := fnExactLinkReadRow.holds Try.pinned (OpenSpec.ofChange fnExactLinkReadSpec)

/-- ITS FALSE NEIGHBOUR: 'it returns false'. Refute it at one input. -/
def fnExactLinkReadWrong : ChangeSpec := { name := "fnExactLinkRead", fn := fun _ => fun
  | [d1, d2] => { results := [.lit (.bool false)], args := [d1, d2] }
  | _ => none }
def FnExactLinkReadWrongFalsely : Prop := fnExactLinkReadRow.holds Try.pinned (OpenSpec.ofChange fnExactLinkReadWrong)

/-- 'laws.FnExactSignedRead': WHATEVER THE INPUT: true; the input reads as it did. -/
def fnExactSignedReadSpec : ChangeSpec := { name := "fnExactSignedRead", fn := fun _ => fun
  | [d] => { results := [.lit (.bool true)], args := [d] }
  | _ => none }
def fnExactSignedReadRow : OpenClaim := { program := "ytnlalnkoggkdfaa", sum := "e4317080fa7e577408a409bd78bf5521f0204979fcde7f6871028c93153d36e1", func := "loop.example/g00279/laws.FnExactSignedRead", spec := "fnExactSignedRead", unfollowed := true, recurses := true, apart := false }
def FnExactSignedReadSaid : Prop := fnExactSignedReadRow.holds Try.pinned (OpenSpec.ofChange fnExactSignedReadSpec)

/-- ITS FALSE NEIGHBOUR: 'it returns false'. Refute it at one input. -/
def fnExactSignedReadWrong : ChangeSpec := { name := "fnExactSignedRead", fn := fun _ => fun
  | [d] => { results := [.lit (.bool false)], args := [d] }
  | _ => none }
def FnExactSignedReadWrongFalsely : Prop := fnExactSignedReadRow.holds Try.pinned (OpenSpec.ofChange fnExactSignedReadWrong)

/- THE SECOND FORM. 'bulk': how many values and letters a reading holds, each counted each time it is reached (what is shared counts as often as it is met; a slice's spare places count too). A statement '..UptoSaid' is the law's where the arguments, and the package variables that the reading takes, are together of bulk at most 1048576: NARROWER than '..Said'. Prove '..Said' where nothing that the law and all that it calls make is longer than what came in: it says more and counts as full. Else prove '..UptoSaid'. A law counts once. -/
mutual
def uptoBulk {H : Type} : DataW H → Nat
  | .lit (.string bytes) => bytes.length + 1
  | .lit _ => 1
  | .nil => 1
  | .ptr d => uptoBulk d + 1
  | .slice elems spare => uptoBulkAll elems + uptoBulkAll spare + 1
  | .agg parts => uptoBulkAll parts + 1
  | .iface _ d => uptoBulk d + 1
  | .map entries => uptoBulkEntries entries + 1
  | .held _ => 1
def uptoBulkAll {H : Type} : List (DataW H) → Nat
  | [] => 0
  | d :: r => uptoBulk d + uptoBulkAll r
def uptoBulkEntries {H : Type} : List (Lit × DataW H) → Nat
  | [] => 0
  | x :: r => uptoBulkEntry x + uptoBulkEntries r
def uptoBulkEntry {H : Type} : Lit × DataW H → Nat
  | (.string bytes, d) => bytes.length + uptoBulk d + 1
  | (_, d) => uptoBulk d + 1
 end
def uptoSmall : (H : Type) → List (DataW H) → Bool := fun _ ds => decide (uptoBulkAll ds ≤ 1048576)
def OpenSpec.upto (s : _root_.Go.ChangeSpec) : _root_.Go.OpenSpec := { _root_.Go.OpenSpec.ofChange s with cond := some uptoSmall }

/-- 'laws.FnExactRootRight', WHERE WHAT IT READS IS OF BULK AT MOST 1048576: true; the input reads as it did. -/
def fnExactRootRightUptoRow : OpenClaim := { program := "ytnlalnkoggkdfaa", sum := "e4317080fa7e577408a409bd78bf5521f0204979fcde7f6871028c93153d36e1", func := "loop.example/g00279/laws.FnExactRootRight", spec := "fnExactRootRight", apart := false, narrowed := true }
def FnExactRootRightUptoSaid : Prop := fnExactRootRightUptoRow.holds Try.pinned (OpenSpec.upto fnExactRootRightSpec)

/-- 'laws.FnExactRootBytes', WHERE WHAT IT READS IS OF BULK AT MOST 1048576: true; the input reads as it did. -/
def fnExactRootBytesUptoRow : OpenClaim := { program := "ytnlalnkoggkdfaa", sum := "e4317080fa7e577408a409bd78bf5521f0204979fcde7f6871028c93153d36e1", func := "loop.example/g00279/laws.FnExactRootBytes", spec := "fnExactRootBytes", apart := false, narrowed := true }
def FnExactRootBytesUptoSaid : Prop := fnExactRootBytesUptoRow.holds Try.pinned (OpenSpec.upto fnExactRootBytesSpec)

/-- 'laws.FnExactTargetsRight', WHERE WHAT IT READS IS OF BULK AT MOST 1048576: true; the input reads as it did. -/
def fnExactTargetsRightUptoRow : OpenClaim := { program := "ytnlalnkoggkdfaa", sum := "e4317080fa7e577408a409bd78bf5521f0204979fcde7f6871028c93153d36e1", func := "loop.example/g00279/laws.FnExactTargetsRight", spec := "fnExactTargetsRight", apart := false, narrowed := true }
def FnExactTargetsRightUptoSaid : Prop := fnExactTargetsRightUptoRow.holds Try.pinned (OpenSpec.upto fnExactTargetsRightSpec)

/-- 'laws.FnExactTargetsBytes', WHERE WHAT IT READS IS OF BULK AT MOST 1048576: true; the input reads as it did. -/
def fnExactTargetsBytesUptoRow : OpenClaim := { program := "ytnlalnkoggkdfaa", sum := "e4317080fa7e577408a409bd78bf5521f0204979fcde7f6871028c93153d36e1", func := "loop.example/g00279/laws.FnExactTargetsBytes", spec := "fnExactTargetsBytes", apart := false, narrowed := true }
def FnExactTargetsBytesUptoSaid : Prop := fnExactTargetsBytesUptoRow.holds Try.pinned (OpenSpec.upto fnExactTargetsBytesSpec)

/-- 'laws.FnExactLinkBytes', WHERE WHAT IT READS IS OF BULK AT MOST 1048576: true; the input reads as it did. -/
def fnExactLinkBytesUptoRow : OpenClaim := { program := "ytnlalnkoggkdfaa", sum := "e4317080fa7e577408a409bd78bf5521f0204979fcde7f6871028c93153d36e1", func := "loop.example/g00279/laws.FnExactLinkBytes", spec := "fnExactLinkBytes", apart := false, narrowed := true }
def FnExactLinkBytesUptoSaid : Prop := fnExactLinkBytesUptoRow.holds Try.pinned (OpenSpec.upto fnExactLinkBytesSpec)

/-- 'laws.FnExactSignedBytes', WHERE WHAT IT READS IS OF BULK AT MOST 1048576: true; the input reads as it did. -/
def fnExactSignedBytesUptoRow : OpenClaim := { program := "ytnlalnkoggkdfaa", sum := "e4317080fa7e577408a409bd78bf5521f0204979fcde7f6871028c93153d36e1", func := "loop.example/g00279/laws.FnExactSignedBytes", spec := "fnExactSignedBytes", apart := false, narrowed := true }
def FnExactSignedBytesUptoSaid : Prop := fnExactSignedBytesUptoRow.holds Try.pinned (OpenSpec.upto fnExactSignedBytesSpec)

/-- 'laws.FnSigned', WHERE WHAT IT READS IS OF BULK AT MOST 1048576: true; the input reads as it did. -/
def fnSignedUptoRow : OpenClaim := { program := "ytnlalnkoggkdfaa", sum := "e4317080fa7e577408a409bd78bf5521f0204979fcde7f6871028c93153d36e1", func := "loop.example/g00279/laws.FnSigned", spec := "fnSigned", unfollowed := true, recurses := true, apart := false, narrowed := true }
def FnSignedUptoSaid : Prop := fnSignedUptoRow.holds Try.pinned (OpenSpec.upto fnSignedSpec)

/-- 'laws.FnExactRootRead', WHERE WHAT IT READS IS OF BULK AT MOST 1048576: true; the input reads as it did. -/
def fnExactRootReadUptoRow : OpenClaim := { program := "ytnlalnkoggkdfaa", sum := "e4317080fa7e577408a409bd78bf5521f0204979fcde7f6871028c93153d36e1", func := "loop.example/g00279/laws.FnExactRootRead", spec := "fnExactRootRead", unfollowed := true, recurses := true, apart := false, narrowed := true }
def FnExactRootReadUptoSaid : Prop := fnExactRootReadUptoRow.holds Try.pinned (OpenSpec.upto fnExactRootReadSpec)

/-- 'laws.FnExactTargetsRead', WHERE WHAT IT READS IS OF BULK AT MOST 1048576: true; the input reads as it did. -/
def fnExactTargetsReadUptoRow : OpenClaim := { program := "ytnlalnkoggkdfaa", sum := "e4317080fa7e577408a409bd78bf5521f0204979fcde7f6871028c93153d36e1", func := "loop.example/g00279/laws.FnExactTargetsRead", spec := "fnExactTargetsRead", unfollowed := true, recurses := true, apart := false, narrowed := true }
def FnExactTargetsReadUptoSaid : Prop := fnExactTargetsReadUptoRow.holds Try.pinned (OpenSpec.upto fnExactTargetsReadSpec)

/-- 'laws.FnExactLinkRead', WHERE WHAT IT READS IS OF BULK AT MOST 1048576: true; the input reads as it did. -/
def fnExactLinkReadUptoRow : OpenClaim := { program := "ytnlalnkoggkdfaa", sum := "e4317080fa7e577408a409bd78bf5521f0204979fcde7f6871028c93153d36e1", func := "loop.example/g00279/laws.FnExactLinkRead", spec := "fnExactLinkRead", unfollowed := true, recurses := true, apart := false, narrowed := true }
def FnExactLinkReadUptoSaid : Prop := fnExactLinkReadUptoRow.holds Try.pinned (OpenSpec.upto fnExactLinkReadSpec)

/-- 'laws.FnExactSignedRead', WHERE WHAT IT READS IS OF BULK AT MOST 1048576: true; the input reads as it did. -/
def fnExactSignedReadUptoRow : OpenClaim := { program := "ytnlalnkoggkdfaa", sum := "e4317080fa7e577408a409bd78bf5521f0204979fcde7f6871028c93153d36e1", func := "loop.example/g00279/laws.FnExactSignedRead", spec := "fnExactSignedRead", unfollowed := true, recurses := true, apart := false, narrowed := true }
def FnExactSignedReadUptoSaid : Prop := fnExactSignedReadUptoRow.holds Try.pinned (OpenSpec.upto fnExactSignedReadSpec)

end Rows
end Go.Proofs.Ytnlalnkoggkdfaa
