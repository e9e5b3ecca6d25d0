/- Rows that are marked, whatever their elements. -/
import Derived.Test.YtaalegjhhpfhbaaMrkT
import Derived.Test.YtaalegjhhpfhbaaSta
namespace Go.Proofs.Ytaalegjhhpfhbaa
open Go.RowKit
set_option linter.unusedVariables false

def VR (w : World) (a : Option Addr) (L : List Value) : Prop := L ≠ [] → ∃ g, a = some ⟨g, 0, none⟩ ∧ RowV w g L
theorem VR.below {w w' : World} {a : Option Addr} {L : List Value} (h : VR w a L) (hb : Below w.heap.size w w') : VR w' a L := fun hl => by
  obtain ⟨g, e, hr⟩ := h hl
  exact ⟨g, e, hr.below hb (hr.lt hl)⟩
structure MkV (g : Nat) (L : List Value) (w w' : World) : Prop where
  row : RowV w' g L
  but : But g w w'
theorem MkV.call {g : Nat} {L : List Value} {w w' w2 : World} (h : Hid (MkV g L w w')) (hl : L ≠ []) (hb : Below w'.heap.size w' w2) : Hid (MkV g L w w2) := ⟨h.out.row.below hb (h.out.row.lt hl), h.out.but.trans (But.of hb)⟩
theorem MkV.put {g : Nat} {L L' : List Value} {w w' w2 : World} (h : Hid (MkV g L w w')) (hr : RowV w2 g L') (ho : Only g w' w2) : Hid (MkV g L' w w2) := ⟨hr, h.out.but.trans ⟨ho.below.mono (Nat.zero_le _), fun k hk hl => ho.blk k hk hl⟩⟩
theorem Try.siz1T : (Try.prog.info? 9).map (·.size) = some 1 := by kernel_rfl
/- Of a list that may be none. -/
structure MkW (a : Option Addr) (w w' : World) : Prop where
  far : ∀ j, j < w.heap.size → (∀ ad, a = some ad → j ≠ ad.block) → w'.heap[j]? = w.heap[j]?
  below : ∀ B, B ≤ w.heap.size → (∀ ad, a = some ad → B ≤ ad.block) → Below B w w'
theorem MkW.pre {a : Option Addr} {w w1 w2 : World} (hb : Below w.heap.size w w1) (h : MkW a w1 w2) : MkW a w w2 :=
  ⟨fun j hl hx => (h.far j (Nat.lt_of_lt_of_le hl hb.size) hx).trans (hb.block j hl), fun B hB hx => (hb.mono hB).trans (h.below B (Nat.le_trans hB hb.size) hx)⟩
theorem MkW.mrk {a : Option Addr} {w w' : World} (h : MkW a w w') (hs : w.heap.size ≤ w'.heap.size) (hl : ∀ ad, a = some ad → ad.block < w.heap.size) : Mrk (fun k => ∃ ad, a = some ad ∧ k = ad.block) w w' :=
  ⟨fun k hk hn => h.far k hk (fun ad e hc => hn ⟨ad, e, hc⟩), fun B hB hb => h.below B hB (fun ad e => hb ad.block ⟨ad, e, rfl⟩), hs⟩
end Go.Proofs.Ytaalegjhhpfhbaa
