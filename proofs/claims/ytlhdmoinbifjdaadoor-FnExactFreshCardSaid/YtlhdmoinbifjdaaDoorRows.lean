/-
  NARROWER THAN 'FOR EVERY INPUT', by the rows' own cells (each row's printed sentence says how): FnExactFresh: ifaces, laid · FnFresh: ifaces, laid.
  DERIVED. THE GIVEN ROWS OF THIS SEAT. 2 by the template 'for every input the law returns true; each argument reads behind the call as it read before'; 0 by the template 'total and deterministic' (their statements: YtlhdmoinbifjdaaDoorTotals.lean).
  GIVEN WITH THE SEED: the statements are not yours to turn. If you find one false, say at which input.
  Laid BY PROGRAM, IN A SANDBOX (cutbox-rows.mjs): the forced cells as the released guide's own fill.sh prints them over the translation bb2342947ecbc9fd… (all of the seat's roots in one cut). By AI agents, Wed Nov 11 2026. No macro, syntax, notation, axiom, sorry.
-/
import Derived.Test.YtlhdmoinbifjdaaDoorChecked
import GoSem.Claim
import GoSem.ClaimJoined
import GoSem.ClaimMapViews
import Derived.JoinedTies
import Derived.KernelRfl
namespace Go.Proofs.YtlhdmoinbifjdaaDoor
/- THE CELL 'sum', in the pinned program and in every row, IS THE sha256 OF THE DUMP (.gsa) THAT YtlhdmoinbifjdaaDoorProg.lean LOADS. Nothing in Lean hashes anything: it is a label: what it is worth is what the hold of that sum in a sandbox is worth. -/
noncomputable def Tryd.pinned : Pinned := { name := "ytlhdmoinbifjdaadoor", sum := "bb2342947ecbc9fdfd76e81d510128c730483f23be0f7fa1fe746240b6cbe547", checked := Tryd.checked }
namespace Rows
def none {H : Type} : Left H := { results := [], args := [] }

/- WHAT THE LISTED PACKAGE-LEVEL VARIABLES READ AS WHEN THE CALL BEGINS. Each datum BY PROGRAM (the guide's laid-datum.mjs) off the statement by which the dump's own 'gosem.cut.vars' lays the variable. In a bare row this is a premise. The card (YtlhdmoinbifjdaaDoorCards.lean) ties it to the program's text. -/
def laid_loop_example_g00279_impl_errSize {H : Type} : DataW H := .iface "*errors.errorString" (.ptr (.agg [.lit (.string [116, 111, 111, 32, 108, 111, 110, 103])]))
def laid_loop_example_g00279_impl_errSyntax {H : Type} : DataW H := .iface "*errors.errorString" (.ptr (.agg [.lit (.string [110, 111, 116, 32, 116, 104, 101, 32, 98, 121, 116, 101, 115, 32, 111, 102, 32, 119, 104, 97, 116, 32, 105, 115, 32, 97, 115, 107, 101, 100, 32, 102, 111, 114])]))
def laid_loop_example_g00279_impl_errSign {H : Type} : DataW H := .iface "*errors.errorString" (.ptr (.agg [.lit (.string [110, 111, 116, 32, 115, 105, 103, 110, 101, 100, 32, 98, 121, 32, 101, 110, 111, 117, 103, 104])]))
def laid_loop_example_g00279_impl_errVersion {H : Type} : DataW H := .iface "*errors.errorString" (.ptr (.agg [.lit (.string [110, 111, 116, 32, 111, 102, 32, 116, 104, 101, 32, 118, 101, 114, 115, 105, 111, 110, 32, 116, 104, 97, 116, 32, 109, 117, 115, 116, 32, 99, 111, 109, 101])]))
def laid_loop_example_g00279_impl_errExpired {H : Type} : DataW H := .iface "*errors.errorString" (.ptr (.agg [.lit (.string [110, 111, 32, 108, 111, 110, 103, 101, 114, 32, 116, 111, 32, 98, 101, 32, 98, 101, 108, 105, 101, 118, 101, 100])]))
def laid_loop_example_g00279_impl_errNone {H : Type} : DataW H := .iface "*errors.errorString" (.ptr (.agg [.lit (.string [110, 111, 116, 32, 116, 104, 101, 114, 101])]))

/-- 'laws.FnExactFresh': WHATEVER THE INPUT: true; the input reads as it did. -/
def fnExactFreshSpec : ChangeSpec := { name := "fnExactFresh", vars := ["loop.example/g00279/impl.errNone", "loop.example/g00279/impl.errVersion", "loop.example/g00279/impl.errExpired", "loop.example/g00279/impl.errSize", "loop.example/g00279/impl.errSyntax", "loop.example/g00279/impl.errSign"], fn := fun _ => fun
  | [d1, d2, g1, g2, g3, g4, g5, g6] => { results := [.lit (.bool true)], args := [d1, d2], vars := [g1, g2, g3, g4, g5, g6] }
  | _ => none }
def fnExactFreshRow : OpenClaim := { program := "ytlhdmoinbifjdaadoor", sum := "bb2342947ecbc9fdfd76e81d510128c730483f23be0f7fa1fe746240b6cbe547", func := "loop.example/g00279/laws.FnExactFresh", spec := "fnExactFresh", inPlace := ["internal/reflectlite.TypeOf"], unfollowed := true, recurses := true, named := ["loop.example/g00279/impl.errNone", "loop.example/g00279/impl.errVersion", "loop.example/g00279/impl.errExpired", "loop.example/g00279/impl.errSize", "loop.example/g00279/impl.errSyntax", "loop.example/g00279/impl.errSign"], ifaces := true, apart := false, laid := [("loop.example/g00279/impl.errSize", laid_loop_example_g00279_impl_errSize), ("loop.example/g00279/impl.errSyntax", laid_loop_example_g00279_impl_errSyntax), ("loop.example/g00279/impl.errSign", laid_loop_example_g00279_impl_errSign), ("loop.example/g00279/impl.errVersion", laid_loop_example_g00279_impl_errVersion), ("loop.example/g00279/impl.errExpired", laid_loop_example_g00279_impl_errExpired), ("loop.example/g00279/impl.errNone", laid_loop_example_g00279_impl_errNone)] }
def FnExactFreshSaid : Prop := fnExactFreshRow.holds Tryd.pinned (OpenSpec.ofChange fnExactFreshSpec)

/-- ITS FALSE NEIGHBOUR: 'it returns false'. Refute it at one input. -/
def fnExactFreshWrong : ChangeSpec := { name := "fnExactFresh", vars := ["loop.example/g00279/impl.errNone", "loop.example/g00279/impl.errVersion", "loop.example/g00279/impl.errExpired", "loop.example/g00279/impl.errSize", "loop.example/g00279/impl.errSyntax", "loop.example/g00279/impl.errSign"], fn := fun _ => fun
  | [d1, d2, g1, g2, g3, g4, g5, g6] => { results := [.lit (.bool false)], args := [d1, d2], vars := [g1, g2, g3, g4, g5, g6] }
  | _ => none }
def FnExactFreshWrongFalsely : Prop := fnExactFreshRow.holds Tryd.pinned (OpenSpec.ofChange fnExactFreshWrong)

/-- 'laws.FnFresh': WHATEVER THE INPUT: true; the input reads as it did. -/
def fnFreshSpec : ChangeSpec := { name := "fnFresh", vars := ["loop.example/g00279/impl.errNone", "loop.example/g00279/impl.errVersion", "loop.example/g00279/impl.errExpired", "loop.example/g00279/impl.errSize", "loop.example/g00279/impl.errSyntax", "loop.example/g00279/impl.errSign"], fn := fun _ => fun
  | [d1, d2, g1, g2, g3, g4, g5, g6] => { results := [.lit (.bool true)], args := [d1, d2], vars := [g1, g2, g3, g4, g5, g6] }
  | _ => none }
def fnFreshRow : OpenClaim := { program := "ytlhdmoinbifjdaadoor", sum := "bb2342947ecbc9fdfd76e81d510128c730483f23be0f7fa1fe746240b6cbe547", func := "loop.example/g00279/laws.FnFresh", spec := "fnFresh", inPlace := ["internal/reflectlite.TypeOf"], unfollowed := true, recurses := true, named := ["loop.example/g00279/impl.errNone", "loop.example/g00279/impl.errVersion", "loop.example/g00279/impl.errExpired", "loop.example/g00279/impl.errSize", "loop.example/g00279/impl.errSyntax", "loop.example/g00279/impl.errSign"], ifaces := true, apart := false, laid := [("loop.example/g00279/impl.errSize", laid_loop_example_g00279_impl_errSize), ("loop.example/g00279/impl.errSyntax", laid_loop_example_g00279_impl_errSyntax), ("loop.example/g00279/impl.errSign", laid_loop_example_g00279_impl_errSign), ("loop.example/g00279/impl.errVersion", laid_loop_example_g00279_impl_errVersion), ("loop.example/g00279/impl.errExpired", laid_loop_example_g00279_impl_errExpired), ("loop.example/g00279/impl.errNone", laid_loop_example_g00279_impl_errNone)] }
def FnFreshSaid : Prop := fnFreshRow.holds Tryd.pinned (OpenSpec.ofChange fnFreshSpec)

/-- ITS FALSE NEIGHBOUR: 'it returns false'. Refute it at one input. -/
def fnFreshWrong : ChangeSpec := { name := "fnFresh", vars := ["loop.example/g00279/impl.errNone", "loop.example/g00279/impl.errVersion", "loop.example/g00279/impl.errExpired", "loop.example/g00279/impl.errSize", "loop.example/g00279/impl.errSyntax", "loop.example/g00279/impl.errSign"], fn := fun _ => fun
  | [d1, d2, g1, g2, g3, g4, g5, g6] => { results := [.lit (.bool false)], args := [d1, d2], vars := [g1, g2, g3, g4, g5, g6] }
  | _ => none }
def FnFreshWrongFalsely : Prop := fnFreshRow.holds Tryd.pinned (OpenSpec.ofChange fnFreshWrong)

/- THE SECOND FORM. 'bulk': how many values and letters a reading holds, each counted each time it is reached (what is shared counts as often as it is met; a slice's spare places count too). A statement '..UptoSaid' is the law's where the arguments, and the package variables that the reading takes, are together of bulk at most 1048576: NARROWER than '..Said'. Prove '..Said' where nothing that the law and all that it calls make is longer than what came in: it says more and counts as full. Else prove '..UptoSaid'. A law counts once. -/
mutual
def uptoBulk {H : Type} : DataW H → Nat
  | .lit (.string bytes) => bytes.length + 1
  | .lit _ => 1
  | .nil => 1
  | .ptr d => uptoBulk d + 1
  | .slice elems spare => uptoBulkAll elems + uptoBulkAll spare + 1
  | .agg parts => uptoBulkAll parts + 1
  | .iface _ d => uptoBulk d + 1
  | .map entries => uptoBulkEntries entries + 1
  | .held _ => 1
def uptoBulkAll {H : Type} : List (DataW H) → Nat
  | [] => 0
  | d :: r => uptoBulk d + uptoBulkAll r
def uptoBulkEntries {H : Type} : List (Lit × DataW H) → Nat
  | [] => 0
  | x :: r => uptoBulkEntry x + uptoBulkEntries r
def uptoBulkEntry {H : Type} : Lit × DataW H → Nat
  | (.string bytes, d) => bytes.length + uptoBulk d + 1
  | (_, d) => uptoBulk d + 1
 end
def uptoSmall : (H : Type) → List (DataW H) → Bool := fun _ ds => decide (uptoBulkAll ds ≤ 1048576)
def OpenSpec.upto (s : _root_.Go.ChangeSpec) : _root_.Go.OpenSpec := { _root_.Go.OpenSpec.ofChange s with cond := some uptoSmall }

/-- 'laws.FnExactFresh', WHERE WHAT IT READS IS OF BULK AT MOST 1048576: true; the input reads as it did. -/
def fnExactFreshUptoRow : OpenClaim := { program := "ytlhdmoinbifjdaadoor", sum := "bb2342947ecbc9fdfd76e81d510128c730483f23be0f7fa1fe746240b6cbe547", func := "loop.example/g00279/laws.FnExactFresh", spec := "fnExactFresh", inPlace := ["internal/reflectlite.TypeOf"], unfollowed := true, recurses := true, named := ["loop.example/g00279/impl.errNone", "loop.example/g00279/impl.errVersion", "loop.example/g00279/impl.errExpired", "loop.example/g00279/impl.errSize", "loop.example/g00279/impl.errSyntax", "loop.example/g00279/impl.errSign"], ifaces := true, apart := false, laid := [("loop.example/g00279/impl.errSize", laid_loop_example_g00279_impl_errSize), ("loop.example/g00279/impl.errSyntax", laid_loop_example_g00279_impl_errSyntax), ("loop.example/g00279/impl.errSign", laid_loop_example_g00279_impl_errSign), ("loop.example/g00279/impl.errVersion", laid_loop_example_g00279_impl_errVersion), ("loop.example/g00279/impl.errExpired", laid_loop_example_g00279_impl_errExpired), ("loop.example/g00279/impl.errNone", laid_loop_example_g00279_impl_errNone)], narrowed := true }
def FnExactFreshUptoSaid : Prop := fnExactFreshUptoRow.holds Tryd.pinned (OpenSpec.upto fnExactFreshSpec)

/-- 'laws.FnFresh', WHERE WHAT IT READS IS OF BULK AT MOST 1048576: true; the input reads as it did. -/
def fnFreshUptoRow : OpenClaim := { program := "ytlhdmoinbifjdaadoor", sum := "bb2342947ecbc9fdfd76e81d510128c730483f23be0f7fa1fe746240b6cbe547", func := "loop.example/g00279/laws.FnFresh", spec := "fnFresh", inPlace := ["internal/reflectlite.TypeOf"], unfollowed := true, recurses := true, named := ["loop.example/g00279/impl.errNone", "loop.example/g00279/impl.errVersion", "loop.example/g00279/impl.errExpired", "loop.example/g00279/impl.errSize", "loop.example/g00279/impl.errSyntax", "loop.example/g00279/impl.errSign"], ifaces := true, apart := false, laid := [("loop.example/g00279/impl.errSize", laid_loop_example_g00279_impl_errSize), ("loop.example/g00279/impl.errSyntax", laid_loop_example_g00279_impl_errSyntax), ("loop.example/g00279/impl.errSign", laid_loop_example_g00279_impl_errSign), ("loop.example/g00279/impl.errVersion", laid_loop_example_g00279_impl_errVersion), ("loop.example/g00279/impl.errExpired", laid_loop_example_g00279_impl_errExpired), ("loop.example/g00279/impl.errNone", laid_loop_example_g00279_impl_errNone)], narrowed := true }
def FnFreshUptoSaid : Prop := fnFreshUptoRow.holds Tryd.pinned (OpenSpec.upto fnFreshSpec)

end Rows
end Go.Proofs.YtlhdmoinbifjdaaDoor
