/- Texts turned to the program's, as a thing that was made. -/
import Derived.Test.YtchfpiadfmnphaaDoorSRow
import Derived.Test.YtchfpiadfmnphaaDoorSta
namespace Go.Proofs.YtchfpiadfmnphaaDoor
open Go.RowKit
set_option linter.unusedVariables false

theorem toSM (a : Option Addr) (c n : Nat) (l : List ByteArray) (w : World) (hn : l.length = n) (h : SA w a l) (hb : n ≤ 1048576) :
    Calls Tryd.prog 27 #[.slice a n c] w fun r w' => ∃ (g : Nat), r = .returned (.slice (some ⟨g, 0, none⟩) n n) ∧ (w.heap.size ≤ g ∧ g < w'.heap.size) ∧ Made w w' (fun w2 => RowV w2 g (svl l)) ∧ Below w.heap.size w w' :=
  (toS_row a c n l w hn h hb).mono fun r w' ⟨h1, h2, h3, h4⟩ => ⟨w.heap.size, h1, ⟨Nat.le_refl _, h4⟩, fun w2 hw => h2.same fun k => hw.far ⟨w.heap.size, k, none⟩ h4 (fun hn => hn ⟨Nat.le_refl _, h4⟩), h3⟩
def roomQ (q0 : Int) (l : List ByteArray) : Int := if q0 - (l.length : Int) < 0 then -1 else roomS l (q0 - (l.length : Int))
theorem roomQ_bd {q0 : Int} {l : List ByteArray} (g1 : q0 ≤ 1048576) (h : 0 ≤ roomQ q0 l) : l.length ≤ 1048576 := by
  unfold roomQ at h
  by_cases hl : q0 - (l.length : Int) < 0
  · rw [if_pos hl] at h; omega
  · omega
set_option maxRecDepth 100000 in
set_option maxHeartbeats 1000000 in
theorem szS_q (a : Option Addr) (c n : Nat) (l : List ByteArray) (q0 : Int) (w : World) (g0 : 0 ≤ q0) (g1 : q0 ≤ 1048576) (hn : l.length = n) (h : SA w a l) (hM : n ≤ maxLen) (hx : ∀ x ∈ l, x.size ≤ maxLen) :
    Calls Tryd.prog 25 #[.slice a n c,   .int .i64 q0] w fun e w' => e = .returned (.int .i64 (roomQ q0 l)) ∧ w' = w := by
  have HA : Hid (SA w a l) := h
  have HN : Hid (l.length = n) := hn
  have HX : Hid (∀ x ∈ l, x.size ≤ maxLen) := hx
  clear h hn hx
  unfold maxLen at hM
  by_cases hb : q0 - (n : Int) < 0
  · have HR : Hid (roomQ q0 l = -1) := by show _ = _; unfold roomQ; rw [if_pos (by have := HN.out; omega)]
    go_enter Tryd.func25, Tryd.ntmps25
    go_wp2
    go_ret
    exact ⟨retZ HR.out.symm, rfl⟩
  · have HR : Hid (roomQ q0 l = roomS (l.drop 0) (q0 - (n : Int))) := by show _ = _; unfold roomQ; rw [if_neg (by have := HN.out; omega), HN.out]; rfl
    go_enter Tryd.func25, Tryd.ntmps25
    go_wp2_with fail
    go_loop [1, 5] (fun vq vi => ∃ (k : Nat) (q : Int), vi = .int .i64 (k : Int) ∧ vq = .int .i64 q ∧ k ≤ n ∧ 0 ≤ q ∧ q ≤ 1048576 ∧ roomQ q0 l = roomS (l.drop k) q) (fun _ vi => n - (intOf vi).toNat)
    case atStart => exact ⟨0, _, rfl, rfl, Nat.zero_le _, by omega, by omega, HR.out⟩
    case round =>
      obtain ⟨k, q, rfl, rfl, hk, hq0, hq1, he⟩ := hrel
      have HE : Hid (roomQ q0 l = roomS (l.drop k) q) := he
      clear he
      by_cases hlt : k < n
      · have hkl : k < l.length := by have := HN.out; omega
        obtain ⟨b, o, rfl, hc⟩ := HA.out k hkl
        have hxs := HX.out l[k] (List.getElem_mem hkl)
        unfold maxLen at hxs
        have HD : Hid (roomS (l.drop k) q = if q - (l[k].size : Int) < 0 then -1 else roomS (l.drop (k + 1)) (q - l[k].size)) := by
          show _ = _
          rw [List.drop_eq_getElem_cons hkl, roomS]
        generalize l[k] = x at *
        have lk : (k : Int) < n := by omega
        have l0 : (0 : Int) ≤ k := by omega
        clear hkl
        by_cases hneg : q - (x.size : Int) < 0
        · have HF : Hid (roomQ q0 l = -1) := by show _ = _; rw [HE.out, HD.out, if_pos hneg]
          clear HE HD
          go_wp2
          go_ret
          exact ⟨retZ HF.out.symm, rfl⟩
        · have HF : Hid (roomQ q0 l = roomS (l.drop (k + 1)) (q - x.size)) := by show _ = _; rw [HE.out, HD.out, if_neg hneg]
          clear HE HD
          have hge : 0 ≤ q - (x.size : Int) := by omega
          go_wp2
          exact ⟨⟨k + 1, _, by go_num, rfl, hlt, hge, by omega, HF.out⟩, by simp [intOf]; omega⟩
      · obtain rfl : k = n := by omega
        have HF : Hid (roomQ q0 l = q) := by
          show _ = _
          rw [HE.out, List.drop_of_length_le (by have := HN.out; omega)]
          rfl
        clear HE
        go_wp2
        go_ret
        exact ⟨retZ HF.out.symm, rfl⟩
end Go.Proofs.YtchfpiadfmnphaaDoor
