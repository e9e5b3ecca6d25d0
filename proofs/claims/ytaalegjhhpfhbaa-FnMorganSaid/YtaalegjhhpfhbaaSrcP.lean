/- The source's method pick: one of the texts. -/
import Derived.Test.YtaalegjhhpfhbaaJn1
import Derived.Test.YtaalegjhhpfhbaaSRow
import Derived.Test.YtaalegjhhpfhbaaBld
namespace Go.Proofs.Ytaalegjhhpfhbaa
open Go.RowKit
set_option linter.unusedVariables false

theorem SA.grown {w w' : World} {a : Option Addr} {l : List ByteArray} {g : Nat} (h : SA w a l) (hg : w.grownBy w' (some g)) (hn : ∀ x, a = some x → x.block ≠ g) : SA w' a l := fun i hi => by
  obtain ⟨b, o, h1, h2⟩ := h i hi
  refine ⟨b, o, h1, ?_⟩
  have hlt : b < w.heap.size := cellLt h2
  have hb := hg.block b hlt (fun e => hn _ h1 (by injection e))
  rw [← h2]
  unfold World.cell?
  simp only
  rw [hb]
set_option maxRecDepth 100000 in
set_option maxHeartbeats 2000000 in
theorem pick_any (g len cap m c : Nat) (a b : Option Addr) (l : List ByteArray) (w : World) (h : SrcAt w g a len cap) (hl : l.length = m) (h0 : 0 < m) (hm : m ≤ 1000) (hr : SA w b l) (hb : ∀ x, b = some x → x.block ≠ g) :
    Calls Try.prog 116 #[.pointer (some ⟨g, 0, none⟩), .slice b m c] w fun e w' => ∃ t : ByteArray, e = .returned (.string t) ∧ t ∈ l ∧ SrcAt w' g a len cap ∧ w.grownBy w' (some g) := by
  have HN : Hid (∀ w1, SrcAt w1 g a len cap → Calls Try.prog 77 #[.pointer (some ⟨g, 0, none⟩), .int .i64 (m : Int)] w1 fun e w' => ∃ v : Int, e = .returned (.int .i64 v) ∧ 0 ≤ v ∧ v < m ∧ SrcAt w' g a len cap ∧ w1.grownBy w' (some g)) := fun w1 h1 => n_any g len cap a m w1 h1 (by omega) (by omega)
  have HS : Hid (SrcAt w g a len cap) := h
  have HR := hidP hr
  have HB := hidP hb
  have HL := hidP hl
  clear h hr hb hl
  go_enter Try.func116, Try.ntmps116
  go_wp2_with (first
    | (go_at_call 77; (with_reducible refine (HN.out w HS.out).mono ?_); rintro e w1 ⟨v, rfl, hv0, hv1, hs1, hg1⟩; obtain ⟨k, rfl⟩ := Int.eq_ofNat_of_zero_le hv0; have hk : k < l.length := (by have := HL.out; omega); obtain ⟨b1, o1, rfl, hc⟩ := SA.grown HR.out hg1 HB.out k hk; obtain ⟨t, ht⟩ : ∃ t, l[k] = t := ⟨_, rfl⟩; rw [ht] at hc; have HT : Hid (t ∈ l) := (by rw [← ht]; exact List.getElem_mem hk); have HG := hidP hg1; have HS1 := hidP hs1; clear hg1 hs1 ht; have hv1' : (k : Int) < (m : Int) := hv1; have hv0' : (0 : Int) ≤ (k : Int) := hv0; clear hv1 hv0))
  go_ret
  exact ⟨_, rfl, HT.out, HS1.out, HG.out⟩
end Go.Proofs.Ytaalegjhhpfhbaa
