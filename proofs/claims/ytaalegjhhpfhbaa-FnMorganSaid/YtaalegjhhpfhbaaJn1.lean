/- The specification's l01Source: what it makes. The source's method one. -/
import Derived.Test.YtaalegjhhpfhbaaSrcN
import Derived.Test.YtaalegjhhpfhbaaJn2
namespace Go.Proofs.Ytaalegjhhpfhbaa
open Go.RowKit
set_option linter.unusedVariables false
attribute [local go_sem ↓] Go.wp_at_zero Go.wp_at_succ

set_option maxRecDepth 100000 in
set_option maxHeartbeats 2000000 in
theorem source_any (len cap : Nat) (a : Option Addr) (w : World) (hb : Bytes w a len) (hs : len ≤ 9223372036854775807) :
    Calls Try.prog 57 #[.slice a len cap] w fun e w' => ∃ g : Nat, e = .returned (.pointer (some ⟨g, 0, none⟩)) ∧ w.heap.size ≤ g ∧ SrcAt w' g a len cap ∧ Below w.heap.size w w' := by
  have hst : Hid (SrcAt (w.alloc (.cells #[.slice a len cap, .int .i64 0, .int .u64 88172645463325252, .int .i64 0] 144)) w.heap.size a len cap) := SrcAt.start hb hs
  have hss := setCell_twice
  clear hb
  go_enter Try.func57, Try.ntmps57
  go_wp2
  go_loopw [4] (fun i wr => ∃ k : Nat, i = .int .i64 k ∧ k ≤ len ∧ SrcAt wr w.heap.size a len cap ∧ Below w.heap.size w wr) (fun i _ => len - (intOf i).toNat)
  case atStart => exact ⟨0, rfl, Nat.zero_le _, hst.out, (Below.refl _ _).alloc (Nat.le_refl _) _⟩
  case round =>
    obtain ⟨k, rfl, hk, hsrc, hnx⟩ := hrel
    have HS : Hid (SrcAt wr w.heap.size a len cap) := hsrc
    have HB : Hid (Below w.heap.size w wr) := hnx
    obtain ⟨m, c2⟩ := hsrc.c2
    obtain ⟨n, n0, n1, c3⟩ := hsrc.c3
    have f2 := hsrc.f2
    have f3 := hsrc.f3
    have hend : ∀ x : Int, 0 ≤ x → x ≤ 12 → Hid (SrcAt (wr.setCell ⟨w.heap.size, 3, none⟩ (.int .i64 x)) w.heap.size a len cap ∧ Below w.heap.size w (wr.setCell ⟨w.heap.size, 3, none⟩ (.int .i64 x))) := fun x h0 h1 => ⟨HS.out.setSize x h0 h1, HB.out.setCell (Nat.le_refl _) _⟩
    have HE : Hid _ := hend
    clear hsrc hnx hst hend
    by_cases hlt : k < len ∧ k < 64
    · obtain ⟨hl1, hl2⟩ := hlt
      obtain ⟨b, o, z, ha, hz, hz0, hz1⟩ := HS.out.bytes k hl1
      have hne : b ≠ w.heap.size := by have := HS.out.lt (by omega) _ ha; simp at this; omega
      subst ha
      have hi0 : (0 : Int) ≤ (k : Int) := by omega
      have hi1 : (k : Int) < (len : Int) := by omega
      clear HE
      go_wp2
      go_region
      generalize IntKind.u64.wrap _ = m1
      go_wp2
      go_roundw
      case rel => exact ⟨k + 1, by go_num, hl1, (HS.out.setMix m1).drew, (HB.out.setCell (Nat.le_refl _) _).drew⟩
      case measure => simp [intOf]; omega
    · by_cases h12 : 12 < (len : Int) / 20
      · have hE := HE.out 12 (by omega) (by omega)
        clear HE
        by_cases hl1 : k < len
        all_goals
          go_wp2
          go_ret
          exact ⟨w.heap.size, rfl, Nat.le_refl _, hE.out.1, hE.out.2⟩
      · have hE := HE.out ((len : Int) / 20) (by omega) (by omega)
        clear HE
        by_cases hl1 : k < len
        all_goals
          go_wp2
          go_ret
          exact ⟨w.heap.size, rfl, Nat.le_refl _, hE.out.1, hE.out.2⟩
end Go.Proofs.Ytaalegjhhpfhbaa
namespace Go.Proofs.Ytaalegjhhpfhbaa
open Go.RowKit
set_option linter.unusedVariables false
attribute [local go_sem ↓] Go.wp_at_zero Go.wp_at_succ

theorem one_any (g len cap : Nat) (a : Option Addr) (most : Int) (w : World) (h : SrcAt w g a len cap) (hm : 0 < most) (hm2 : most ≤ 1099511627776) :
    Calls Try.prog 78 #[.pointer (some ⟨g, 0, none⟩), .int .i64 most] w fun e w' => ∃ b : Bool, Hid (e = .returned (.bool b) ∧ SrcAt w' g a len cap ∧ w.grownBy w' (some g)) := by
  have HN : Hid (∀ w1, SrcAt w1 g a len cap → Calls Try.prog 77 #[.pointer (some ⟨g, 0, none⟩), .int .i64 most] w1 fun e w' => ∃ v : Int, e = .returned (.int .i64 v) ∧ 0 ≤ v ∧ v < most ∧ SrcAt w' g a len cap ∧ w1.grownBy w' (some g)) := fun w1 h1 => n_any g len cap a most w1 h1 hm hm2
  have HS : Hid (SrcAt w g a len cap) := h
  clear h
  go_enter Try.func78, Try.ntmps78
  go_wp2_with fail
  refine (HN.out _ HS.out).mono ?_
  rintro e w1 ⟨v, rfl, _, _, h1, h2⟩
  have H1 : Hid _ := h1
  have H2 : Hid _ := h2
  clear h1 h2 HN HS
  go_wp2
  go_ret
  exact ⟨(v == 0), rfl, H1.out, H2.out⟩
end Go.Proofs.Ytaalegjhhpfhbaa
