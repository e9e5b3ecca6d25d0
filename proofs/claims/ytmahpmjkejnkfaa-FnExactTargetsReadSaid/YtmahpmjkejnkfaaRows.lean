/-
  No cell of these rows narrows 'for every input' (looked for: loops, veiled, ifaces, maps, wideKeys, modest, calm, conditions, laid).
  DERIVED. THE GIVEN ROWS OF THIS SEAT. 4 by the template 'for every input the law returns true; each argument reads behind the call as it read before'; 0 by the template 'total and deterministic' (their statements: YtmahpmjkejnkfaaTotals.lean).
  GIVEN WITH THE SEED: the statements are not yours to turn. If you find one false, say at which input.
  Laid BY PROGRAM, IN A SANDBOX (cutbox-rows.mjs): the forced cells as the released guide's own fill.sh prints them over the translation b98a6418c9b5238a… (all of the seat's roots in one cut). By AI agents, Wed Nov 11 2026. No macro, syntax, notation, axiom, sorry.
-/
import Derived.Test.YtmahpmjkejnkfaaChecked
import GoSem.Claim
import GoSem.ClaimJoined
import GoSem.ClaimMapViews
import Derived.JoinedTies
import Derived.KernelRfl
namespace Go.Proofs.Ytmahpmjkejnkfaa
/- THE CELL 'sum', in the pinned program and in every row, IS THE sha256 OF THE DUMP (.gsa) THAT YtmahpmjkejnkfaaProg.lean LOADS. Nothing in Lean hashes anything: it is a label: what it is worth is what the hold of that sum in a sandbox is worth. -/
noncomputable def Try.pinned : Pinned := { name := "ytmahpmjkejnkfaa", sum := "b98a6418c9b5238a7f3499bfb4b3a4abefc371d98cc1e8fc211a46f02c33d4e8", checked := Try.checked }
namespace Rows
def none {H : Type} : Left H := { results := [], args := [] }

/-- 'laws.FnSigned': WHATEVER THE INPUT: true; the input reads as it did. -/
def fnSignedSpec : ChangeSpec := { name := "fnSigned", fn := fun _ => fun
  | [d1, d2] => { results := [.lit (.bool true)], args := [d1, d2] }
  | _ => none }
def fnSignedRow : OpenClaim := { program := "ytmahpmjkejnkfaa", sum := "b98a6418c9b5238a7f3499bfb4b3a4abefc371d98cc1e8fc211a46f02c33d4e8", func := "loop.example/g00279/laws.FnSigned", spec := "fnSigned", unfollowed := true, recurses := true, apart := false }
def FnSignedSaid : Prop := fnSignedRow.holds Try.pinned (OpenSpec.ofChange fnSignedSpec)

/-- ITS FALSE NEIGHBOUR: 'it returns false'. Refute it at one input. -/
def fnSignedWrong : ChangeSpec := { name := "fnSigned", fn := fun _ => fun
  | [d1, d2] => { results := [.lit (.bool false)], args := [d1, d2] }
  | _ => none }
def FnSignedWrongFalsely : Prop := fnSignedRow.holds Try.pinned (OpenSpec.ofChange fnSignedWrong)

/-- 'laws.FnExactRootRead': WHATEVER THE INPUT: true; the input reads as it did. -/
def fnExactRootReadSpec : ChangeSpec := { name := "fnExactRootRead", fn := fun _ => fun
  | [d] => { results := [.lit (.bool true)], args := [d] }
  | _ => none }
def fnExactRootReadRow : OpenClaim := { program := "ytmahpmjkejnkfaa", sum := "b98a6418c9b5238a7f3499bfb4b3a4abefc371d98cc1e8fc211a46f02c33d4e8", func := "loop.example/g00279/laws.FnExactRootRead", spec := "fnExactRootRead", unfollowed := true, recurses := true, apart := false }
def FnExactRootReadSaid : Prop := fnExactRootReadRow.holds Try.pinned (OpenSpec.ofChange fnExactRootReadSpec)

/-- ITS FALSE NEIGHBOUR: 'it returns false'. Refute it at one input. -/
def fnExactRootReadWrong : ChangeSpec := { name := "fnExactRootRead", fn := fun _ => fun
  | [d] => { results := [.lit (.bool false)], args := [d] }
  | _ => none }
def FnExactRootReadWrongFalsely : Prop := fnExactRootReadRow.holds Try.pinned (OpenSpec.ofChange fnExactRootReadWrong)

/-- 'laws.FnExactTargetsRead': WHATEVER THE INPUT: true; the input reads as it did. -/
def fnExactTargetsReadSpec : ChangeSpec := { name := "fnExactTargetsRead", fn := fun _ => fun
  | [d] => { results := [.lit (.bool true)], args := [d] }
  | _ => none }
def fnExactTargetsReadRow : OpenClaim := { program := "ytmahpmjkejnkfaa", sum := "b98a6418c9b5238a7f3499bfb4b3a4abefc371d98cc1e8fc211a46f02c33d4e8", func := "loop.example/g00279/laws.FnExactTargetsRead", spec := "fnExactTargetsRead", unfollowed := true, recurses := true, apart := false }
def FnExactTargetsReadSaid : Prop := fnExactTargetsReadRow.holds Try.pinned (OpenSpec.ofChange fnExactTargetsReadSpec)

/-- ITS FALSE NEIGHBOUR: 'it returns false'. Refute it at one input. -/
def fnExactTargetsReadWrong : ChangeSpec := { name := "fnExactTargetsRead", fn := fun _ => fun
  | [d] => { results := [.lit (.bool false)], args := [d] }
  | _ => none }
def FnExactTargetsReadWrongFalsely : Prop := fnExactTargetsReadRow.holds Try.pinned (OpenSpec.ofChange fnExactTargetsReadWrong)

/-- 'laws.FnExactRoleOf': WHATEVER THE INPUT: true; the input reads as it did. -/
def fnExactRoleOfSpec : ChangeSpec := { name := "fnExactRoleOf", fn := fun _ => fun
  | [d1, d2] => { results := [.lit (.bool true)], args := [d1, d2] }
  | _ => none }
def fnExactRoleOfRow : OpenClaim := { program := "ytmahpmjkejnkfaa", sum := "b98a6418c9b5238a7f3499bfb4b3a4abefc371d98cc1e8fc211a46f02c33d4e8", func := "loop.example/g00279/laws.FnExactRoleOf", spec := "fnExactRoleOf", recurses := true, apart := false }
def FnExactRoleOfSaid : Prop := fnExactRoleOfRow.holds Try.pinned (OpenSpec.ofChange fnExactRoleOfSpec)

/-- ITS FALSE NEIGHBOUR: 'it returns false'. Refute it at one input. -/
def fnExactRoleOfWrong : ChangeSpec := { name := "fnExactRoleOf", fn := fun _ => fun
  | [d1, d2] => { results := [.lit (.bool false)], args := [d1, d2] }
  | _ => none }
def FnExactRoleOfWrongFalsely : Prop := fnExactRoleOfRow.holds Try.pinned (OpenSpec.ofChange fnExactRoleOfWrong)

/- THE SECOND FORM. 'bulk': how many values and letters a reading holds, each counted each time it is reached (what is shared counts as often as it is met; a slice's spare places count too). A statement '..UptoSaid' is the law's where the arguments, and the package variables that the reading takes, are together of bulk at most 1048576: NARROWER than '..Said'. Prove '..Said' where nothing that the law and all that it calls make is longer than what came in: it says more and counts as full. Else prove '..UptoSaid'. A law counts once. -/
mutual
def uptoBulk {H : Type} : DataW H → Nat
  | .lit (.string bytes) => bytes.length + 1
  | .lit _ => 1
  | .nil => 1
  | .ptr d => uptoBulk d + 1
  | .slice elems spare => uptoBulkAll elems + uptoBulkAll spare + 1
  | .agg parts => uptoBulkAll parts + 1
  | .iface _ d => uptoBulk d + 1
  | .map entries => uptoBulkEntries entries + 1
  | .held _ => 1
def uptoBulkAll {H : Type} : List (DataW H) → Nat
  | [] => 0
  | d :: r => uptoBulk d + uptoBulkAll r
def uptoBulkEntries {H : Type} : List (Lit × DataW H) → Nat
  | [] => 0
  | x :: r => uptoBulkEntry x + uptoBulkEntries r
def uptoBulkEntry {H : Type} : Lit × DataW H → Nat
  | (.string bytes, d) => bytes.length + uptoBulk d + 1
  | (_, d) => uptoBulk d + 1
 end
def uptoSmall : (H : Type) → List (DataW H) → Bool := fun _ ds => decide (uptoBulkAll ds ≤ 1048576)
def OpenSpec.upto (s : _root_.Go.ChangeSpec) : _root_.Go.OpenSpec := { _root_.Go.OpenSpec.ofChange s with cond := some uptoSmall }

/-- 'laws.FnSigned', WHERE WHAT IT READS IS OF BULK AT MOST 1048576: true; the input reads as it did. -/
def fnSignedUptoRow : OpenClaim := { program := "ytmahpmjkejnkfaa", sum := "b98a6418c9b5238a7f3499bfb4b3a4abefc371d98cc1e8fc211a46f02c33d4e8", func := "loop.example/g00279/laws.FnSigned", spec := "fnSigned", unfollowed := true, recurses := true, apart := false, narrowed := true }
def FnSignedUptoSaid : Prop := fnSignedUptoRow.holds Try.pinned (OpenSpec.upto fnSignedSpec)

/-- 'laws.FnExactRootRead', WHERE WHAT IT READS IS OF BULK AT MOST 1048576: true; the input reads as it did. -/
def fnExactRootReadUptoRow : OpenClaim := { program := "ytmahpmjkejnkfaa", sum := "b98a6418c9b5238a7f3499bfb4b3a4abefc371d98cc1e8fc211a46f02c33d4e8", func := "loop.example/g00279/laws.FnExactRootRead", spec := "fnExactRootRead", unfollowed := true, recurses := true, apart := false, narrowed := true }
def FnExactRootReadUptoSaid : Prop := fnExactRootReadUptoRow.holds Try.pinned (OpenSpec.upto fnExactRootReadSpec)

/-- 'laws.FnExactTargetsRead', WHERE WHAT IT READS IS OF BULK AT MOST 1048576: true; the input reads as it did. -/
def fnExactTargetsReadUptoRow : OpenClaim := { program := "ytmahpmjkejnkfaa", sum := "b98a6418c9b5238a7f3499bfb4b3a4abefc371d98cc1e8fc211a46f02c33d4e8", func := "loop.example/g00279/laws.FnExactTargetsRead", spec := "fnExactTargetsRead", unfollowed := true, recurses := true, apart := false, narrowed := true }
def FnExactTargetsReadUptoSaid : Prop := fnExactTargetsReadUptoRow.holds Try.pinned (OpenSpec.upto fnExactTargetsReadSpec)

/-- 'laws.FnExactRoleOf', WHERE WHAT IT READS IS OF BULK AT MOST 1048576: true; the input reads as it did. -/
def fnExactRoleOfUptoRow : OpenClaim := { program := "ytmahpmjkejnkfaa", sum := "b98a6418c9b5238a7f3499bfb4b3a4abefc371d98cc1e8fc211a46f02c33d4e8", func := "loop.example/g00279/laws.FnExactRoleOf", spec := "fnExactRoleOf", recurses := true, apart := false, narrowed := true }
def FnExactRoleOfUptoSaid : Prop := fnExactRoleOfUptoRow.holds Try.pinned (OpenSpec.upto fnExactRoleOfSpec)

end Rows
end Go.Proofs.Ytmahpmjkejnkfaa
