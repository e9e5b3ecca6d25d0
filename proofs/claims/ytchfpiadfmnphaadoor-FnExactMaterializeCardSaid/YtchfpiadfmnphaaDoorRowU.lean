/- Rows of numbers of 32 bits that a call has made and that are known whole; the spec's l02Keys. -/
import Derived.Test.YtchfpiadfmnphaaDoorU32
import Derived.Test.YtchfpiadfmnphaaDoorRows
import Derived.ProofKit
namespace Go.Proofs.YtchfpiadfmnphaaDoor
open Go.RowKit
set_option linter.unusedVariables false

def us (l : List UInt32) : List Value := l.map U
theorem us_length (l : List UInt32) : (us l).length = l.length := by simp [us]
def RowU (w : World) (g e : Nat) (l : List UInt32) : Prop := w.heap[g]? = some (.cells (us l).toArray e (0, 0))
theorem us_get {l : List UInt32} {k : Nat} (h : k < l.length) : (us l)[k]? = some (U l[k]) := by
  simp [us, List.getElem?_eq_getElem h]
theorem RowU.made {w : World} {base e g n : Nat} {xs : List Value} (h : w.ownsRow base e 1 (.slice (some ⟨g, 0, none⟩) n n) n xs) (hx : xs = us (List.replicate n 0)) : RowU w g e (List.replicate n 0) := by
  rcases h.2 with ⟨h1, _⟩ | ⟨g', cap, cur, hv, hbg, hg, hnc, hcm, hcs, htake⟩
  · simp at h1
  · simp at hv
    obtain ⟨rfl, rfl⟩ := hv
    unfold RowU
    rw [hg, ← hx, ← htake, List.take_of_length_le (by simp [hcs])]
theorem made_zeroU (n : Nat) : (madeCells #[Value.int .u32 0] n).toList = us (List.replicate n 0) := by
  apply List.ext_getElem
  · simp [madeCells, us]
  · intro i h1 h2
    simp [madeCells, us, U, Nat.mod_one]
theorem RowU.cell {w : World} {g e : Nat} {l : List UInt32} (h : RowU w g e l) {k : Nat} (hk : k < l.length) : w.cell? ⟨g, k, none⟩ = some (U l[k]) := by
  unfold RowU at h
  simp [World.cell?, h, us_get hk]
theorem RowU.frozen {w : World} {g e : Nat} {l : List UInt32} (h : RowU w g e l) (k : Nat) : w.frozen? ⟨g, k, none⟩ = false := by
  unfold RowU at h
  simp [World.frozen?, h]
theorem RowU.set {w : World} {g e : Nat} {l l' : List UInt32} (h : RowU w g e l) (k : Nat) {x : UInt32} (hl : l' = l.set k x) : RowU (w.setCell ⟨g, k, none⟩ (U x)) g e l' := by
  unfold RowU at *
  rw [heap_setCell_same w g k _ _ _ h, hl]
  congr 2
  simp [us, List.map_set]
theorem RowU.below {w w' : World} {g e B : Nat} {l : List UInt32} (h : RowU w g e l) (hb : Below B w w') (hB : g < B) : RowU w' g e l := by
  unfold RowU at *
  rw [← h]
  exact hb.block g hB
theorem RowU.drew {w : World} {g e : Nat} {l : List UInt32} (h : RowU w g e l) : RowU w.drew g e l := h

def keys : List UInt32 := [
  0x428a2f98, 0x71374491, 0xb5c0fbcf, 0xe9b5dba5, 0x3956c25b, 0x59f111f1, 0x923f82a4, 0xab1c5ed5,
  0xd807aa98, 0x12835b01, 0x243185be, 0x550c7dc3, 0x72be5d74, 0x80deb1fe, 0x9bdc06a7, 0xc19bf174,
  0xe49b69c1, 0xefbe4786, 0x0fc19dc6, 0x240ca1cc, 0x2de92c6f, 0x4a7484aa, 0x5cb0a9dc, 0x76f988da,
  0x983e5152, 0xa831c66d, 0xb00327c8, 0xbf597fc7, 0xc6e00bf3, 0xd5a79147, 0x06ca6351, 0x14292967,
  0x27b70a85, 0x2e1b2138, 0x4d2c6dfc, 0x53380d13, 0x650a7354, 0x766a0abb, 0x81c2c92e, 0x92722c85,
  0xa2bfe8a1, 0xa81a664b, 0xc24b8b70, 0xc76c51a3, 0xd192e819, 0xd6990624, 0xf40e3585, 0x106aa070,
  0x19a4c116, 0x1e376c08, 0x2748774c, 0x34b0bcb5, 0x391c0cb3, 0x4ed8aa4a, 0x5b9cca4f, 0x682e6ff3,
  0x748f82ee, 0x78a5636f, 0x84c87814, 0x8cc70208, 0x90befffa, 0xa4506ceb, 0xbef9a3f7, 0xc67178f2]
theorem keys_length : keys.length = 64 := by decide +kernel

set_option maxRecDepth 100000 in
set_option maxHeartbeats 1000000 in
theorem keys_any (w : World) :
    Calls Tryd.prog 97 #[] w fun e w' => e = .returned (.slice (some ⟨w.heap.size, 0, none⟩) 64 64) ∧ RowU w' w.heap.size 127 keys ∧ Below w.heap.size w w' := by
  go_enter Tryd.func97, Tryd.ntmps97
  go_wp2
  go_ret
  refine ⟨rfl, ?_, (Below.refl _ _).alloc (Nat.le_refl _) _⟩
  unfold RowU
  simp only [World.alloc, Array.getElem?_push_size]
  rfl
end Go.Proofs.YtchfpiadfmnphaaDoor
