/- The laws over LeafHash, NodeHash, TreeRoot, InclusionCheck and ConsistencyCheck, walked out of what the program's functions answer. -/
import Derived.Test.YtdfglpbappeoaabDoorConS
import Derived.Test.YtdfglpbappeoaabDoorLaid
namespace Go.Proofs.YtdfglpbappeoaabDoor
open Go.RowKit
set_option linter.unusedVariables false

/- What the program's functions answer: to be shown of the program's own text. -/
def LeafI : Prop := ∀ (t : ByteArray) (w : World), t.size ≤ maxLen → ArrU w 8 keys → 8 < w.heap.size → Calls Tryd.prog 16 #[.string t] w fun e w' => e = .returned (.string (leafA t)) ∧ Below w.heap.size w w'
def NodeI : Prop := ∀ (a b : ByteArray) (w : World), a.size ≤ maxLen → b.size ≤ maxLen → ArrU w 8 keys → 8 < w.heap.size → Calls Tryd.prog 48 #[.string a, .string b] w fun e w' => e = .returned (.string (nodeA a b)) ∧ Below w.heap.size w w'
def TreeI : Prop := ∀ (a : Option Addr) (c n : Nat) (l : List ByteArray) (w : World), l.length = n → n ≤ c → SA w a l → n ≤ 1048576 → c ≤ 9223372036854775807 → (∀ x ∈ l, x.size ≤ maxLen) → ArrU w 8 keys → 8 < w.heap.size → Calls Tryd.prog 9 #[.slice a n c] w fun e w' => e = .returned (.string (rootA l)) ∧ Below w.heap.size w w'
def IncI : Prop := ∀ (leaf root : ByteArray) (i n : Int) (a : Option Addr) (c m : Nat) (ps : List ByteArray) (w : World), ps.length = m → m ≤ c → SA w a ps → leaf.size ≤ maxLen → root.size ≤ maxLen → m ≤ 1048576 → (∀ x ∈ ps, x.size ≤ maxLen) → (Lit.int .i64 i).wf = true → (Lit.int .i64 n).wf = true → ArrU w 8 keys → 8 < w.heap.size →
    Calls Tryd.prog 15 #[.string leaf, .int .i64 i, .int .i64 n, .slice a m c, .string root] w fun e w' => e = .returned (.bool (incB leaf i n ps root)) ∧ Below w.heap.size w w'
def ConI : Prop := ∀ (old root : ByteArray) (i n : Int) (b o c m : Nat) (ps : List ByteArray) (w : World), ps.length = m → m ≤ c → SA w (some ⟨b, o, none⟩) ps → old.size ≤ maxLen → root.size ≤ maxLen → m ≤ 1048576 → (∀ x ∈ ps, x.size ≤ maxLen) → (Lit.int .i64 i).wf = true → (Lit.int .i64 n).wf = true → ArrU w 8 keys → 8 < w.heap.size →
    Calls Tryd.prog 17 #[.int .i64 i, .int .i64 n, .slice (some ⟨b, o, none⟩) m c, .string old, .string root] w fun e w' => e = .returned (.bool (conB i n ps old root)) ∧ Below w.heap.size w w'

end Go.Proofs.YtdfglpbappeoaabDoor
