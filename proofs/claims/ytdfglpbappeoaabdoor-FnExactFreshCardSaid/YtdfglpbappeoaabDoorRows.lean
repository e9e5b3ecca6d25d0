/-
  NARROWER THAN 'FOR EVERY INPUT', by the rows' own cells (each row's printed sentence says how): FnLeaves: laid · FnOneLeaf: laid · FnOnePast: laid · FnExactFresh: ifaces, laid · FnFresh: ifaces, laid.
  DERIVED. THE GIVEN ROWS OF THIS SEAT. 5 by the template 'for every input the law returns true; each argument reads behind the call as it read before'; 0 by the template 'total and deterministic' (their statements: YtdfglpbappeoaabDoorTotals.lean).
  GIVEN WITH THE SEED: the statements are not yours to turn. If you find one false, say at which input.
  Laid BY PROGRAM, IN A SANDBOX (cutbox-rows.mjs): the forced cells as the released guide's own fill.sh prints them over the translation 6aa965f206b71043… (all of the seat's roots in one cut). By AI agents, Wed Nov 11 2026. No macro, syntax, notation, axiom, sorry.
-/
import Derived.Test.YtdfglpbappeoaabDoorChecked
import GoSem.Claim
import GoSem.ClaimJoined
import GoSem.ClaimMapViews
import Derived.JoinedTies
import Derived.KernelRfl
namespace Go.Proofs.YtdfglpbappeoaabDoor
/- THE CELL 'sum', in the pinned program and in every row, IS THE sha256 OF THE DUMP (.gsa) THAT YtdfglpbappeoaabDoorProg.lean LOADS. Nothing in Lean hashes anything: it is a label: what it is worth is what the hold of that sum in a sandbox is worth. -/
noncomputable def Tryd.pinned : Pinned := { name := "ytdfglpbappeoaabdoor", sum := "6aa965f206b710432c87f36d4579eb32977237951125c9e67764081ada8c3f31", checked := Tryd.checked }
namespace Rows
def none {H : Type} : Left H := { results := [], args := [] }

/- WHAT THE LISTED PACKAGE-LEVEL VARIABLES READ AS WHEN THE CALL BEGINS. Each datum BY PROGRAM (the guide's laid-datum.mjs) off the statement by which the dump's own 'gosem.cut.vars' lays the variable. In a bare row this is a premise. The card (YtdfglpbappeoaabDoorCards.lean) ties it to the program's text. -/
def laid_loop_example_g00279_impl_roundNumbers {H : Type} : DataW H := .agg [.lit (.int .u32 1116352408), .lit (.int .u32 1899447441), .lit (.int .u32 3049323471), .lit (.int .u32 3921009573), .lit (.int .u32 961987163), .lit (.int .u32 1508970993), .lit (.int .u32 2453635748), .lit (.int .u32 2870763221), .lit (.int .u32 3624381080), .lit (.int .u32 310598401), .lit (.int .u32 607225278), .lit (.int .u32 1426881987), .lit (.int .u32 1925078388), .lit (.int .u32 2162078206), .lit (.int .u32 2614888103), .lit (.int .u32 3248222580), .lit (.int .u32 3835390401), .lit (.int .u32 4022224774), .lit (.int .u32 264347078), .lit (.int .u32 604807628), .lit (.int .u32 770255983), .lit (.int .u32 1249150122), .lit (.int .u32 1555081692), .lit (.int .u32 1996064986), .lit (.int .u32 2554220882), .lit (.int .u32 2821834349), .lit (.int .u32 2952996808), .lit (.int .u32 3210313671), .lit (.int .u32 3336571891), .lit (.int .u32 3584528711), .lit (.int .u32 113926993), .lit (.int .u32 338241895), .lit (.int .u32 666307205), .lit (.int .u32 773529912), .lit (.int .u32 1294757372), .lit (.int .u32 1396182291), .lit (.int .u32 1695183700), .lit (.int .u32 1986661051), .lit (.int .u32 2177026350), .lit (.int .u32 2456956037), .lit (.int .u32 2730485921), .lit (.int .u32 2820302411), .lit (.int .u32 3259730800), .lit (.int .u32 3345764771), .lit (.int .u32 3516065817), .lit (.int .u32 3600352804), .lit (.int .u32 4094571909), .lit (.int .u32 275423344), .lit (.int .u32 430227734), .lit (.int .u32 506948616), .lit (.int .u32 659060556), .lit (.int .u32 883997877), .lit (.int .u32 958139571), .lit (.int .u32 1322822218), .lit (.int .u32 1537002063), .lit (.int .u32 1747873779), .lit (.int .u32 1955562222), .lit (.int .u32 2024104815), .lit (.int .u32 2227730452), .lit (.int .u32 2361852424), .lit (.int .u32 2428436474), .lit (.int .u32 2756734187), .lit (.int .u32 3204031479), .lit (.int .u32 3329325298)]
def laid_loop_example_g00279_impl_errSize {H : Type} : DataW H := .iface "*errors.errorString" (.ptr (.agg [.lit (.string [116, 111, 111, 32, 108, 111, 110, 103])]))
def laid_loop_example_g00279_impl_errSyntax {H : Type} : DataW H := .iface "*errors.errorString" (.ptr (.agg [.lit (.string [110, 111, 116, 32, 116, 104, 101, 32, 98, 121, 116, 101, 115, 32, 111, 102, 32, 119, 104, 97, 116, 32, 105, 115, 32, 97, 115, 107, 101, 100, 32, 102, 111, 114])]))
def laid_loop_example_g00279_impl_errSign {H : Type} : DataW H := .iface "*errors.errorString" (.ptr (.agg [.lit (.string [110, 111, 116, 32, 115, 105, 103, 110, 101, 100, 32, 98, 121, 32, 101, 110, 111, 117, 103, 104])]))
def laid_loop_example_g00279_impl_errVersion {H : Type} : DataW H := .iface "*errors.errorString" (.ptr (.agg [.lit (.string [110, 111, 116, 32, 111, 102, 32, 116, 104, 101, 32, 118, 101, 114, 115, 105, 111, 110, 32, 116, 104, 97, 116, 32, 109, 117, 115, 116, 32, 99, 111, 109, 101])]))
def laid_loop_example_g00279_impl_errExpired {H : Type} : DataW H := .iface "*errors.errorString" (.ptr (.agg [.lit (.string [110, 111, 32, 108, 111, 110, 103, 101, 114, 32, 116, 111, 32, 98, 101, 32, 98, 101, 108, 105, 101, 118, 101, 100])]))
def laid_loop_example_g00279_impl_errNone {H : Type} : DataW H := .iface "*errors.errorString" (.ptr (.agg [.lit (.string [110, 111, 116, 32, 116, 104, 101, 114, 101])]))
def laid_loop_example_g00279_impl_errProof {H : Type} : DataW H := .iface "*errors.errorString" (.ptr (.agg [.lit (.string [110, 111, 116, 32, 112, 114, 111, 118, 101, 110])]))
def laid_loop_example_g00279_impl_errFork {H : Type} : DataW H := .iface "*errors.errorString" (.ptr (.agg [.lit (.string [97, 110, 111, 116, 104, 101, 114, 32, 108, 111, 103])]))

/-- 'laws.FnLeaves': WHATEVER THE INPUT: true; the input reads as it did. -/
def fnLeavesSpec : ChangeSpec := { name := "fnLeaves", vars := ["loop.example/g00279/impl.roundNumbers"], fn := fun _ => fun
  | [d1, d2, g1] => { results := [.lit (.bool true)], args := [d1, d2], vars := [g1] }
  | _ => none }
def fnLeavesRow : OpenClaim := { program := "ytdfglpbappeoaabdoor", sum := "6aa965f206b710432c87f36d4579eb32977237951125c9e67764081ada8c3f31", func := "loop.example/g00279/laws.FnLeaves", spec := "fnLeaves", unfollowed := true, recurses := true, named := ["loop.example/g00279/impl.roundNumbers"], apart := false, laid := [("loop.example/g00279/impl.roundNumbers", laid_loop_example_g00279_impl_roundNumbers)] }
def FnLeavesSaid : Prop := fnLeavesRow.holds Tryd.pinned (OpenSpec.ofChange fnLeavesSpec)

/-- ITS FALSE NEIGHBOUR: 'it returns false'. Refute it at one input. -/
def fnLeavesWrong : ChangeSpec := { name := "fnLeaves", vars := ["loop.example/g00279/impl.roundNumbers"], fn := fun _ => fun
  | [d1, d2, g1] => { results := [.lit (.bool false)], args := [d1, d2], vars := [g1] }
  | _ => none }
def FnLeavesWrongFalsely : Prop := fnLeavesRow.holds Tryd.pinned (OpenSpec.ofChange fnLeavesWrong)

/-- 'laws.FnOneLeaf': WHATEVER THE INPUT: true; the input reads as it did. -/
def fnOneLeafSpec : ChangeSpec := { name := "fnOneLeaf", vars := ["loop.example/g00279/impl.roundNumbers"], fn := fun _ => fun
  | [d1, d2, g1] => { results := [.lit (.bool true)], args := [d1, d2], vars := [g1] }
  | _ => none }
def fnOneLeafRow : OpenClaim := { program := "ytdfglpbappeoaabdoor", sum := "6aa965f206b710432c87f36d4579eb32977237951125c9e67764081ada8c3f31", func := "loop.example/g00279/laws.FnOneLeaf", spec := "fnOneLeaf", recurses := true, named := ["loop.example/g00279/impl.roundNumbers"], apart := false, laid := [("loop.example/g00279/impl.roundNumbers", laid_loop_example_g00279_impl_roundNumbers)] }
def FnOneLeafSaid : Prop := fnOneLeafRow.holds Tryd.pinned (OpenSpec.ofChange fnOneLeafSpec)

/-- ITS FALSE NEIGHBOUR: 'it returns false'. Refute it at one input. -/
def fnOneLeafWrong : ChangeSpec := { name := "fnOneLeaf", vars := ["loop.example/g00279/impl.roundNumbers"], fn := fun _ => fun
  | [d1, d2, g1] => { results := [.lit (.bool false)], args := [d1, d2], vars := [g1] }
  | _ => none }
def FnOneLeafWrongFalsely : Prop := fnOneLeafRow.holds Tryd.pinned (OpenSpec.ofChange fnOneLeafWrong)

/-- 'laws.FnOnePast': WHATEVER THE INPUT: true; the input reads as it did. -/
def fnOnePastSpec : ChangeSpec := { name := "fnOnePast", vars := ["loop.example/g00279/impl.roundNumbers"], fn := fun _ => fun
  | [d1, d2, g1] => { results := [.lit (.bool true)], args := [d1, d2], vars := [g1] }
  | _ => none }
def fnOnePastRow : OpenClaim := { program := "ytdfglpbappeoaabdoor", sum := "6aa965f206b710432c87f36d4579eb32977237951125c9e67764081ada8c3f31", func := "loop.example/g00279/laws.FnOnePast", spec := "fnOnePast", recurses := true, named := ["loop.example/g00279/impl.roundNumbers"], apart := false, laid := [("loop.example/g00279/impl.roundNumbers", laid_loop_example_g00279_impl_roundNumbers)] }
def FnOnePastSaid : Prop := fnOnePastRow.holds Tryd.pinned (OpenSpec.ofChange fnOnePastSpec)

/-- ITS FALSE NEIGHBOUR: 'it returns false'. Refute it at one input. -/
def fnOnePastWrong : ChangeSpec := { name := "fnOnePast", vars := ["loop.example/g00279/impl.roundNumbers"], fn := fun _ => fun
  | [d1, d2, g1] => { results := [.lit (.bool false)], args := [d1, d2], vars := [g1] }
  | _ => none }
def FnOnePastWrongFalsely : Prop := fnOnePastRow.holds Tryd.pinned (OpenSpec.ofChange fnOnePastWrong)

/-- 'laws.FnExactFresh': WHATEVER THE INPUT: true; the input reads as it did. -/
def fnExactFreshSpec : ChangeSpec := { name := "fnExactFresh", vars := ["loop.example/g00279/impl.errNone", "loop.example/g00279/impl.errVersion", "loop.example/g00279/impl.errExpired", "loop.example/g00279/impl.errSize", "loop.example/g00279/impl.errSyntax", "loop.example/g00279/impl.errSign", "loop.example/g00279/impl.errProof", "loop.example/g00279/impl.errFork"], fn := fun _ => fun
  | [d1, d2, g1, g2, g3, g4, g5, g6, g7, g8] => { results := [.lit (.bool true)], args := [d1, d2], vars := [g1, g2, g3, g4, g5, g6, g7, g8] }
  | _ => none }
def fnExactFreshRow : OpenClaim := { program := "ytdfglpbappeoaabdoor", sum := "6aa965f206b710432c87f36d4579eb32977237951125c9e67764081ada8c3f31", func := "loop.example/g00279/laws.FnExactFresh", spec := "fnExactFresh", inPlace := ["internal/reflectlite.TypeOf"], unfollowed := true, recurses := true, named := ["loop.example/g00279/impl.errNone", "loop.example/g00279/impl.errVersion", "loop.example/g00279/impl.errExpired", "loop.example/g00279/impl.errSize", "loop.example/g00279/impl.errSyntax", "loop.example/g00279/impl.errSign", "loop.example/g00279/impl.errProof", "loop.example/g00279/impl.errFork"], ifaces := true, apart := false, laid := [("loop.example/g00279/impl.errSize", laid_loop_example_g00279_impl_errSize), ("loop.example/g00279/impl.errSyntax", laid_loop_example_g00279_impl_errSyntax), ("loop.example/g00279/impl.errSign", laid_loop_example_g00279_impl_errSign), ("loop.example/g00279/impl.errVersion", laid_loop_example_g00279_impl_errVersion), ("loop.example/g00279/impl.errExpired", laid_loop_example_g00279_impl_errExpired), ("loop.example/g00279/impl.errNone", laid_loop_example_g00279_impl_errNone), ("loop.example/g00279/impl.errProof", laid_loop_example_g00279_impl_errProof), ("loop.example/g00279/impl.errFork", laid_loop_example_g00279_impl_errFork)] }
def FnExactFreshSaid : Prop := fnExactFreshRow.holds Tryd.pinned (OpenSpec.ofChange fnExactFreshSpec)

/-- ITS FALSE NEIGHBOUR: 'it returns false'. Refute it at one input. -/
def fnExactFreshWrong : ChangeSpec := { name := "fnExactFresh", vars := ["loop.example/g00279/impl.errNone", "loop.example/g00279/impl.errVersion", "loop.example/g00279/impl.errExpired", "loop.example/g00279/impl.errSize", "loop.example/g00279/impl.errSyntax", "loop.example/g00279/impl.errSign", "loop.example/g00279/impl.errProof", "loop.example/g00279/impl.errFork"], fn := fun _ => fun
  | [d1, d2, g1, g2, g3, g4, g5, g6, g7, g8] => { results := [.lit (.bool false)], args := [d1, d2], vars := [g1, g2, g3, g4, g5, g6, g7, g8] }
  | _ => none }
def FnExactFreshWrongFalsely : Prop := fnExactFreshRow.holds Tryd.pinned (OpenSpec.ofChange fnExactFreshWrong)

/-- 'laws.FnFresh': WHATEVER THE INPUT: true; the input reads as it did. -/
def fnFreshSpec : ChangeSpec := { name := "fnFresh", vars := ["loop.example/g00279/impl.errNone", "loop.example/g00279/impl.errVersion", "loop.example/g00279/impl.errExpired", "loop.example/g00279/impl.errSize", "loop.example/g00279/impl.errSyntax", "loop.example/g00279/impl.errSign", "loop.example/g00279/impl.errProof", "loop.example/g00279/impl.errFork"], fn := fun _ => fun
  | [d1, d2, g1, g2, g3, g4, g5, g6, g7, g8] => { results := [.lit (.bool true)], args := [d1, d2], vars := [g1, g2, g3, g4, g5, g6, g7, g8] }
  | _ => none }
def fnFreshRow : OpenClaim := { program := "ytdfglpbappeoaabdoor", sum := "6aa965f206b710432c87f36d4579eb32977237951125c9e67764081ada8c3f31", func := "loop.example/g00279/laws.FnFresh", spec := "fnFresh", inPlace := ["internal/reflectlite.TypeOf"], unfollowed := true, recurses := true, named := ["loop.example/g00279/impl.errNone", "loop.example/g00279/impl.errVersion", "loop.example/g00279/impl.errExpired", "loop.example/g00279/impl.errSize", "loop.example/g00279/impl.errSyntax", "loop.example/g00279/impl.errSign", "loop.example/g00279/impl.errProof", "loop.example/g00279/impl.errFork"], ifaces := true, apart := false, laid := [("loop.example/g00279/impl.errSize", laid_loop_example_g00279_impl_errSize), ("loop.example/g00279/impl.errSyntax", laid_loop_example_g00279_impl_errSyntax), ("loop.example/g00279/impl.errSign", laid_loop_example_g00279_impl_errSign), ("loop.example/g00279/impl.errVersion", laid_loop_example_g00279_impl_errVersion), ("loop.example/g00279/impl.errExpired", laid_loop_example_g00279_impl_errExpired), ("loop.example/g00279/impl.errNone", laid_loop_example_g00279_impl_errNone), ("loop.example/g00279/impl.errProof", laid_loop_example_g00279_impl_errProof), ("loop.example/g00279/impl.errFork", laid_loop_example_g00279_impl_errFork)] }
def FnFreshSaid : Prop := fnFreshRow.holds Tryd.pinned (OpenSpec.ofChange fnFreshSpec)

/-- ITS FALSE NEIGHBOUR: 'it returns false'. Refute it at one input. -/
def fnFreshWrong : ChangeSpec := { name := "fnFresh", vars := ["loop.example/g00279/impl.errNone", "loop.example/g00279/impl.errVersion", "loop.example/g00279/impl.errExpired", "loop.example/g00279/impl.errSize", "loop.example/g00279/impl.errSyntax", "loop.example/g00279/impl.errSign", "loop.example/g00279/impl.errProof", "loop.example/g00279/impl.errFork"], fn := fun _ => fun
  | [d1, d2, g1, g2, g3, g4, g5, g6, g7, g8] => { results := [.lit (.bool false)], args := [d1, d2], vars := [g1, g2, g3, g4, g5, g6, g7, g8] }
  | _ => none }
def FnFreshWrongFalsely : Prop := fnFreshRow.holds Tryd.pinned (OpenSpec.ofChange fnFreshWrong)

/- THE SECOND FORM. 'bulk': how many values and letters a reading holds, each counted each time it is reached (what is shared counts as often as it is met; a slice's spare places count too). A statement '..UptoSaid' is the law's where the arguments, and the package variables that the reading takes, are together of bulk at most 1048576: NARROWER than '..Said'. Prove '..Said' where nothing that the law and all that it calls make is longer than what came in: it says more and counts as full. Else prove '..UptoSaid'. A law counts once. -/
mutual
def uptoBulk {H : Type} : DataW H → Nat
  | .lit (.string bytes) => bytes.length + 1
  | .lit _ => 1
  | .nil => 1
  | .ptr d => uptoBulk d + 1
  | .slice elems spare => uptoBulkAll elems + uptoBulkAll spare + 1
  | .agg parts => uptoBulkAll parts + 1
  | .iface _ d => uptoBulk d + 1
  | .map entries => uptoBulkEntries entries + 1
  | .held _ => 1
def uptoBulkAll {H : Type} : List (DataW H) → Nat
  | [] => 0
  | d :: r => uptoBulk d + uptoBulkAll r
def uptoBulkEntries {H : Type} : List (Lit × DataW H) → Nat
  | [] => 0
  | x :: r => uptoBulkEntry x + uptoBulkEntries r
def uptoBulkEntry {H : Type} : Lit × DataW H → Nat
  | (.string bytes, d) => bytes.length + uptoBulk d + 1
  | (_, d) => uptoBulk d + 1
 end
def uptoSmall : (H : Type) → List (DataW H) → Bool := fun _ ds => decide (uptoBulkAll ds ≤ 1048576)
def OpenSpec.upto (s : _root_.Go.ChangeSpec) : _root_.Go.OpenSpec := { _root_.Go.OpenSpec.ofChange s with cond := some uptoSmall }

/-- 'laws.FnLeaves', WHERE WHAT IT READS IS OF BULK AT MOST 1048576: true; the input reads as it did. -/
def fnLeavesUptoRow : OpenClaim := { program := "ytdfglpbappeoaabdoor", sum := "6aa965f206b710432c87f36d4579eb32977237951125c9e67764081ada8c3f31", func := "loop.example/g00279/laws.FnLeaves", spec := "fnLeaves", unfollowed := true, recurses := true, named := ["loop.example/g00279/impl.roundNumbers"], apart := false, laid := [("loop.example/g00279/impl.roundNumbers", laid_loop_example_g00279_impl_roundNumbers)], narrowed := true }
def FnLeavesUptoSaid : Prop := fnLeavesUptoRow.holds Tryd.pinned (OpenSpec.upto fnLeavesSpec)

/-- 'laws.FnOneLeaf', WHERE WHAT IT READS IS OF BULK AT MOST 1048576: true; the input reads as it did. -/
def fnOneLeafUptoRow : OpenClaim := { program := "ytdfglpbappeoaabdoor", sum := "6aa965f206b710432c87f36d4579eb32977237951125c9e67764081ada8c3f31", func := "loop.example/g00279/laws.FnOneLeaf", spec := "fnOneLeaf", recurses := true, named := ["loop.example/g00279/impl.roundNumbers"], apart := false, laid := [("loop.example/g00279/impl.roundNumbers", laid_loop_example_g00279_impl_roundNumbers)], narrowed := true }
def FnOneLeafUptoSaid : Prop := fnOneLeafUptoRow.holds Tryd.pinned (OpenSpec.upto fnOneLeafSpec)

/-- 'laws.FnOnePast', WHERE WHAT IT READS IS OF BULK AT MOST 1048576: true; the input reads as it did. -/
def fnOnePastUptoRow : OpenClaim := { program := "ytdfglpbappeoaabdoor", sum := "6aa965f206b710432c87f36d4579eb32977237951125c9e67764081ada8c3f31", func := "loop.example/g00279/laws.FnOnePast", spec := "fnOnePast", recurses := true, named := ["loop.example/g00279/impl.roundNumbers"], apart := false, laid := [("loop.example/g00279/impl.roundNumbers", laid_loop_example_g00279_impl_roundNumbers)], narrowed := true }
def FnOnePastUptoSaid : Prop := fnOnePastUptoRow.holds Tryd.pinned (OpenSpec.upto fnOnePastSpec)

/-- 'laws.FnExactFresh', WHERE WHAT IT READS IS OF BULK AT MOST 1048576: true; the input reads as it did. -/
def fnExactFreshUptoRow : OpenClaim := { program := "ytdfglpbappeoaabdoor", sum := "6aa965f206b710432c87f36d4579eb32977237951125c9e67764081ada8c3f31", func := "loop.example/g00279/laws.FnExactFresh", spec := "fnExactFresh", inPlace := ["internal/reflectlite.TypeOf"], unfollowed := true, recurses := true, named := ["loop.example/g00279/impl.errNone", "loop.example/g00279/impl.errVersion", "loop.example/g00279/impl.errExpired", "loop.example/g00279/impl.errSize", "loop.example/g00279/impl.errSyntax", "loop.example/g00279/impl.errSign", "loop.example/g00279/impl.errProof", "loop.example/g00279/impl.errFork"], ifaces := true, apart := false, laid := [("loop.example/g00279/impl.errSize", laid_loop_example_g00279_impl_errSize), ("loop.example/g00279/impl.errSyntax", laid_loop_example_g00279_impl_errSyntax), ("loop.example/g00279/impl.errSign", laid_loop_example_g00279_impl_errSign), ("loop.example/g00279/impl.errVersion", laid_loop_example_g00279_impl_errVersion), ("loop.example/g00279/impl.errExpired", laid_loop_example_g00279_impl_errExpired), ("loop.example/g00279/impl.errNone", laid_loop_example_g00279_impl_errNone), ("loop.example/g00279/impl.errProof", laid_loop_example_g00279_impl_errProof), ("loop.example/g00279/impl.errFork", laid_loop_example_g00279_impl_errFork)], narrowed := true }
def FnExactFreshUptoSaid : Prop := fnExactFreshUptoRow.holds Tryd.pinned (OpenSpec.upto fnExactFreshSpec)

/-- 'laws.FnFresh', WHERE WHAT IT READS IS OF BULK AT MOST 1048576: true; the input reads as it did. -/
def fnFreshUptoRow : OpenClaim := { program := "ytdfglpbappeoaabdoor", sum := "6aa965f206b710432c87f36d4579eb32977237951125c9e67764081ada8c3f31", func := "loop.example/g00279/laws.FnFresh", spec := "fnFresh", inPlace := ["internal/reflectlite.TypeOf"], unfollowed := true, recurses := true, named := ["loop.example/g00279/impl.errNone", "loop.example/g00279/impl.errVersion", "loop.example/g00279/impl.errExpired", "loop.example/g00279/impl.errSize", "loop.example/g00279/impl.errSyntax", "loop.example/g00279/impl.errSign", "loop.example/g00279/impl.errProof", "loop.example/g00279/impl.errFork"], ifaces := true, apart := false, laid := [("loop.example/g00279/impl.errSize", laid_loop_example_g00279_impl_errSize), ("loop.example/g00279/impl.errSyntax", laid_loop_example_g00279_impl_errSyntax), ("loop.example/g00279/impl.errSign", laid_loop_example_g00279_impl_errSign), ("loop.example/g00279/impl.errVersion", laid_loop_example_g00279_impl_errVersion), ("loop.example/g00279/impl.errExpired", laid_loop_example_g00279_impl_errExpired), ("loop.example/g00279/impl.errNone", laid_loop_example_g00279_impl_errNone), ("loop.example/g00279/impl.errProof", laid_loop_example_g00279_impl_errProof), ("loop.example/g00279/impl.errFork", laid_loop_example_g00279_impl_errFork)], narrowed := true }
def FnFreshUptoSaid : Prop := fnFreshUptoRow.holds Tryd.pinned (OpenSpec.upto fnFreshSpec)

end Rows
end Go.Proofs.YtdfglpbappeoaabDoor
