/- What the source's method n does: it answers a number from 0 to below most, and changes nothing but its own struct. -/
import Derived.Test.YtaalegjhhpfhbaaSrc
namespace Go.Proofs.Ytaalegjhhpfhbaa
open Go.RowKit
set_option linter.unusedVariables false
attribute [local go_sem ↓] Go.wp_at_zero Go.wp_at_succ

set_option maxRecDepth 100000 in
set_option maxHeartbeats 2000000 in
theorem n_any (g len cap : Nat) (a : Option Addr) (most : Int) (w : World) (h : SrcAt w g a len cap) (hm : 0 < most) (hm2 : most ≤ 1099511627776) :
    Calls Try.prog 77 #[.pointer (some ⟨g, 0, none⟩), .int .i64 most] w fun e w' => ∃ v : Int, e = .returned (.int .i64 v) ∧ 0 ≤ v ∧ v < most ∧ SrcAt w' g a len cap ∧ w.grownBy w' (some g) := by
  by_cases h1 : most ≤ 1
  · have HS : Hid (SrcAt w g a len cap) := h
    clear h
    go_enter Try.func77, Try.ntmps77
    go_wp2
    go_ret
    exact ⟨0, rfl, by omega, hm, HS.out, World.grownBy.refl _ _⟩
  have hm1 : 1 < most := by omega
  obtain ⟨k, hk, c1⟩ := h.c1
  obtain ⟨m, c2⟩ := h.c2
  have c0 := h.c0
  have f1 := h.f1
  have f2 := h.f2
  have hsmall := h.small
  have HS : Hid (SrcAt w g a len cap) := h
  have hss := setCell_twice
  clear h
  by_cases hlt : k < len
  · obtain ⟨b, o, z, rfl, hz, hz0, hz1⟩ := HS.out.bytes k hlt
    have hne : b ≠ g := by have := HS.out.lt (by omega) _ rfl; simp at this; omega
    have hi0 : (0 : Int) ≤ (k : Int) := by omega
    have hi1 : (k : Int) < (len : Int) := by omega
    go_enter Try.func77, Try.ntmps77
    go_wp2
    go_region
    go_wp2
    go_region
    go_wp2
    go_region
    generalize bits BinOp.xor IntKind.u64 _ _ = m1
    go_wp2
    go_region
    generalize bits BinOp.xor IntKind.u64 _ _ = m2
    go_wp2
    go_region
    generalize bits BinOp.xor IntKind.u64 _ _ = m3
    go_wp2
    go_ret
    have hr := draw_range (X := z + m3 / 1048576) hm1 hm2
    exact ⟨_, rfl, hr.1, hr.2, ((HS.out.setAt (k + 1) hlt (by omega)).setMix m3).drew.drew.drew.drew.drew, grownBy_drew (grownBy_drew (grownBy_drew (grownBy_drew (grownBy_drew (grownBy_set (grownBy_set (World.grownBy.refl _ _)))))))⟩
  · have hi1 : ¬ (k : Int) < (len : Int) := by omega
    go_enter Try.func77, Try.ntmps77
    go_wp2
    go_region
    go_wp2
    go_region
    generalize bits BinOp.xor IntKind.u64 _ _ = m1
    go_wp2
    go_region
    generalize bits BinOp.xor IntKind.u64 _ _ = m2
    go_wp2
    go_region
    generalize bits BinOp.xor IntKind.u64 _ _ = m3
    go_wp2
    go_ret
    have hr := draw_range (X := m3 / 1048576) hm1 hm2
    exact ⟨_, rfl, hr.1, hr.2, (HS.out.setMix m3).drew.drew.drew.drew, grownBy_drew (grownBy_drew (grownBy_drew (grownBy_drew (grownBy_set (World.grownBy.refl _ _)))))⟩
end Go.Proofs.Ytaalegjhhpfhbaa
