/- The source's method bytes: a text of so many bytes; it changes nothing but the source's struct and memory of its own. The source's methods edge and l01Any: what they answer is bounded. -/
import Derived.Test.YtdfglpbappeoaabDoorJn1
namespace Go.Proofs.YtdfglpbappeoaabDoor
open Go.RowKit
set_option linter.unusedVariables false

set_option maxRecDepth 100000 in
set_option maxHeartbeats 2000000 in
theorem bytes_any (g len cap n : Nat) (a : Option Addr) (w : World) (h : SrcAt w g a len cap) (hn : n ≤ 1000000) :
    Calls Tryd.prog 85 #[.pointer (some ⟨g, 0, none⟩), .int .i64 n] w fun e w' => ∃ x : ByteArray, e = .returned (.string x) ∧ x.size = n ∧ SrcAt w' g a len cap ∧ w.grownBy w' (some g) := by
  have HN : Hid (∀ w1, SrcAt w1 g a len cap → Calls Tryd.prog 52 #[.pointer (some ⟨g, 0, none⟩), .int .i64 256] w1 fun e w' => ∃ v : Int, e = .returned (.int .i64 v) ∧ 0 ≤ v ∧ v < 256 ∧ SrcAt w' g a len cap ∧ w1.grownBy w' (some g)) := fun w1 h1 => n_any g len cap a 256 w1 h1 (by omega) (by omega)
  have HS0 : Hid (SrcAt w g a len cap) := h
  have hgw := h.room
  clear h
  go_enter Tryd.func85, Tryd.ntmps85
  go_wp2
  go_loopw [5, 6] (fun v i wr => ∃ (bs : List UInt8) (k : Nat), i = .int .i64 k ∧ k ≤ n ∧ bs.length = k ∧ wr.ownsRow w.heap.size 5 1 v k (bvs bs) ∧ SrcAt wr g a len cap ∧ w.grownBy wr (some g)) (fun _ i _ => n - (intOf i).toNat)
  case atStart => exact ⟨[], 0, rfl, Nat.zero_le _, rfl, own_empty rfl, HS0.out.below ((Below.refl _ _).alloc (Nat.le_refl _) _) hgw, grownBy_below (World.grownBy.refl _ _) ((Below.refl _ _).alloc (Nat.le_refl _) _)⟩
  case round =>
    obtain ⟨bs, k, rfl, hk, hl, hown, hsrc, hgr⟩ := hrel
    have HL : Hid (bs.length = k) := hl
    have HS : Hid (SrcAt wr g a len cap) := hsrc
    have HG : Hid (w.grownBy wr (some g)) := hgr
    have HO : Hid (wr.ownsRow w.heap.size 5 1 u5 k (bvs bs)) := hown
    clear hl hown hsrc hgr
    by_cases hlt : k < n
    · go_wp2_with fail
      refine (HN.out _ HS.out).mono ?_
      rintro e w1 ⟨z, rfl, hz0, hz1, h1, h2⟩
      have hown1 := HO.out.kept h2 (Or.inr (by intro e; have := (HO.out.lt _ e).1; omega))
      have HS1 : Hid (SrcAt w1 g a len cap) := h1
      have HG1 : Hid (w.grownBy w1 (some g)) := grownBy_trans HG.out h2
      have hsz : w.heap.size ≤ w1.heap.size := HG1.out.size
      obtain ⟨b, hb⟩ : ∃ b : UInt8, BV b = .int .u8 z := ⟨UInt8.ofNat z.toNat, by rw [BV_ofNat _ (by omega), Int.toNat_of_nonneg hz0]⟩
      have HB : Hid (BV b = .int .u8 z) := hb
      clear h1 h2 HN HS HG HO hb
      go_wp2_with (first
        | (at_builtin; refine wpList_append_byte rfl _ _ 22 rfl w.heap.size 5 Tryd.underlying22 Tryd.infoU8 _ bs _ rfl hown1 b _ HB.out 1 rfl (by omega) hsz ?_))
      intro v' w2 hown' hb2
      clear hown1
      go_wp2
      go_roundw
      case rel => exact ⟨bs ++ [b], k + 1, by go_num, hlt, by simp [HL.out], hown', HS1.out.below hb2 hgw, grownBy_below HG1.out hb2⟩
      case measure => simp [intOf]; omega
    · obtain rfl : k = n := by omega
      have hconv := run_conv_own 22 Tryd.underlying22 Tryd.underlying5 HO.out 9 Tryd.underlying9
      clear HO HN
      go_wp2
      go_ret
      exact ⟨⟨bs.toArray⟩, rfl, by simpa [ByteArray.size] using HL.out, HS.out, HG.out⟩
end Go.Proofs.YtdfglpbappeoaabDoor
namespace Go.Proofs.YtdfglpbappeoaabDoor
open Go.RowKit
set_option linter.unusedVariables false

theorem edge_cell (w : World) (t : TypeId) : ∀ j : Nat, j < 14 → ∃ z : Int, I64 z ∧ (w.alloc (.cells #[.int .i64 0, .int .i64 1, .int .i64 (-1), .int .i64 2, .int .i64 1000, .int .i64 1001, .int .i64 2147483648, .int .i64 2147483647, .int .i64 (-2147483648), .int .i64 4611686018427387904, .int .i64 9223372036854775807, .int .i64 (-9223372036854775808), .int .i64 1000000, .int .i64 1000001] t)).cell? ⟨w.heap.size, j, none⟩ = some (.int .i64 z)
  | 0, _ => ⟨_, by show (Lit.int .i64 (0)).wf = true; decide, by simp⟩
  | 1, _ => ⟨_, by show (Lit.int .i64 (1)).wf = true; decide, by simp⟩
  | 2, _ => ⟨_, by show (Lit.int .i64 (-1)).wf = true; decide, by simp⟩
  | 3, _ => ⟨_, by show (Lit.int .i64 (2)).wf = true; decide, by simp⟩
  | 4, _ => ⟨_, by show (Lit.int .i64 (1000)).wf = true; decide, by simp⟩
  | 5, _ => ⟨_, by show (Lit.int .i64 (1001)).wf = true; decide, by simp⟩
  | 6, _ => ⟨_, by show (Lit.int .i64 (2147483648)).wf = true; decide, by simp⟩
  | 7, _ => ⟨_, by show (Lit.int .i64 (2147483647)).wf = true; decide, by simp⟩
  | 8, _ => ⟨_, by show (Lit.int .i64 (-2147483648)).wf = true; decide, by simp⟩
  | 9, _ => ⟨_, by show (Lit.int .i64 (4611686018427387904)).wf = true; decide, by simp⟩
  | 10, _ => ⟨_, by show (Lit.int .i64 (9223372036854775807)).wf = true; decide, by simp⟩
  | 11, _ => ⟨_, by show (Lit.int .i64 (-9223372036854775808)).wf = true; decide, by simp⟩
  | 12, _ => ⟨_, by show (Lit.int .i64 (1000000)).wf = true; decide, by simp⟩
  | 13, _ => ⟨_, by show (Lit.int .i64 (1000001)).wf = true; decide, by simp⟩
  | j + 14, h => absurd h (by omega)

set_option maxRecDepth 100000 in
set_option maxHeartbeats 2000000 in
theorem edge_any (g len cap : Nat) (a : Option Addr) (w : World) (h : SrcAt w g a len cap) :
    Calls Tryd.prog 56 #[.pointer (some ⟨g, 0, none⟩)] w fun e w' => ∃ z : Int, e = .returned (.int .i64 z) ∧ I64 z ∧ SrcAt w' g a len cap ∧ w.grownBy w' (some g) := by
  have hgw := h.room
  have HB : Hid (Below w.heap.size w (w.alloc (.cells #[.int .i64 0, .int .i64 1, .int .i64 (-1), .int .i64 2, .int .i64 1000, .int .i64 1001, .int .i64 2147483648, .int .i64 2147483647, .int .i64 (-2147483648), .int .i64 4611686018427387904, .int .i64 9223372036854775807, .int .i64 (-9223372036854775808), .int .i64 1000000, .int .i64 1000001] 2))) := (Below.refl _ _).alloc (Nat.le_refl _) _
  have HS1 : Hid (SrcAt (w.alloc (.cells #[.int .i64 0, .int .i64 1, .int .i64 (-1), .int .i64 2, .int .i64 1000, .int .i64 1001, .int .i64 2147483648, .int .i64 2147483647, .int .i64 (-2147483648), .int .i64 4611686018427387904, .int .i64 9223372036854775807, .int .i64 (-9223372036854775808), .int .i64 1000000, .int .i64 1000001] 2)) g a len cap) := h.below HB.out hgw
  have HN : Hid (∀ w1, SrcAt w1 g a len cap → Calls Tryd.prog 52 #[.pointer (some ⟨g, 0, none⟩), .int .i64 14] w1 fun e w' => ∃ v : Int, e = .returned (.int .i64 v) ∧ 0 ≤ v ∧ v < 14 ∧ SrcAt w' g a len cap ∧ w1.grownBy w' (some g)) := fun w1 h1 => n_any g len cap a 14 w1 h1 (by omega) (by omega)
  clear h
  go_enter Tryd.func56, Tryd.ntmps56
  go_wp2_with fail
  refine (HN.out _ HS1.out).mono ?_
  rintro e w1 ⟨v, rfl, hv0, hv1, h1, h2⟩
  obtain ⟨j, rfl⟩ := Int.eq_ofNat_of_zero_le hv0
  obtain ⟨z, hz, hc⟩ := edge_cell w 2 j (by omega)
  have hc1 : w1.cell? ⟨w.heap.size, j, none⟩ = some (.int .i64 z) := by
    rw [World.cell?_of_block (h2.block w.heap.size (by simp) (by intro e; simp at e; omega))]; exact hc
  have H1 : Hid _ := h1
  have HZ : Hid (I64 z) := hz
  have HG : Hid (w.grownBy w1 (some g)) := grownBy_trans (grownBy_below (World.grownBy.refl _ _) HB.out) h2
  clear h1 h2 HN HS1 HB hc hz
  go_wp2
  go_ret
  exact ⟨z, rfl, HZ.out, H1.out, HG.out⟩

end Go.Proofs.YtdfglpbappeoaabDoor
