/- Marks in texts: what the laws' helpers markText, markStringS, heldStringS answer. -/
import Derived.Test.YtchfpiadfmnphaaDoorOwnS
import Derived.Test.YtchfpiadfmnphaaDoorOwn
import Derived.Test.YtchfpiadfmnphaaDoorMrkT
namespace Go.Proofs.YtchfpiadfmnphaaDoor
open Go.RowKit
set_option linter.unusedVariables false

/- The digits of a number ahead of a text. -/
def mks (k n : Nat) : List ByteArray := (List.range n).map fun i => mkT (k + i)
theorem mks_length (k n : Nat) : (mks k n).length = n := by unfold mks; rw [List.length_map, List.length_range]
theorem mks_get {k n i : Nat} (h : i < (mks k n).length) : (mks k n)[i] = mkT (k + i) := by simp [mks]
theorem mks_succ (k n : Nat) : mks k (n + 1) = mks k n ++ [mkT (k + n)] := by unfold mks; rw [List.range_succ, List.map_append]; rfl
theorem mks_set (k : Nat) (l : List ByteArray) {i : Nat} (h : i < l.length) : mks k (i + 1) ++ l.drop (i + 1) = (mks k i ++ l.drop i).set i (mkT (k + i)) := by
  rw [List.set_append_right _ _ (by rw [mks_length]; exact Nat.le_refl _), mks_length, Nat.sub_self, List.drop_eq_getElem_cons h, List.set_cons_zero, mks_succ, List.append_assoc]
  rfl
set_option maxRecDepth 100000 in
set_option maxHeartbeats 1000000 in
theorem markS_row (g c n k0 : Nat) (l : List ByteArray) (w : World) (hn : l.length = n) (h : RowV w g (svl l)) (hg : g < w.heap.size) (hb : n ≤ 1048576) (h1 : 1 ≤ k0) (h2 : k0 ≤ 1000000) :
    Calls Tryd.prog 33 #[.slice (some ⟨g, 0, none⟩) n c, .int .i64 (k0 : Int)] w fun e w' => e = .returned (.int .i64 ((k0 + n : Nat) : Int)) ∧ RowV w' g (svl (mks k0 n)) ∧ But g w w' := by
  have HN : Hid (l.length = n) := hn
  have HI1 : Hid (RowV w g (svl (mks k0 0 ++ l.drop 0))) := h
  clear h hn
  go_enter Tryd.func33, Tryd.ntmps33
  go_wp2_with fail
  go_loopw [1, 5] (fun vk i wr => ∃ k : Nat, i = .int .i64 (k : Int) ∧ vk = .int .i64 ((k0 + k : Nat) : Int) ∧ k ≤ n ∧ RowV wr g (svl (mks k0 k ++ l.drop k)) ∧ But g w wr) (fun _ i _ => n - (intOf i).toNat)
  case atStart => exact ⟨0, rfl, rfl, Nat.zero_le _, HI1.out, But.refl _ _⟩
  case round =>
    obtain ⟨k, rfl, rfl, hk, hI, hB⟩ := hrel
    have H8 : Hid (RowV wr g (svl (mks k0 k ++ l.drop k)) ∧ But g w wr) := ⟨hI, hB⟩
    by_cases hlt : k < n
    · have hkl : k < l.length := by have := HN.out; omega
      have hlen : k < (mks k0 k ++ l.drop k).length := by rw [List.length_append, mks_length, List.length_drop]; omega
      have hM : ∀ w0, Calls Tryd.prog 50 #[.int .i64 ((k0 + k : Nat) : Int)] w0 fun e w' => e = .returned (.string (mkT (k0 + k))) ∧ Below w0.heap.size w0 w' := fun w0 => mark_any (k0 + k) w0 (by omega) (by omega)
      have HS : Hid (True → mks k0 (k + 1) ++ l.drop (k + 1) = (mks k0 k ++ l.drop k).set k (mkT (k0 + k))) := fun _ => mks_set k0 l hkl
      have hgw : g < wr.heap.size := Nat.lt_of_lt_of_le hg hB.size
      generalize mkT (k0 + k) = x at *
      have lk : (k : Int) < n := by omega
      have l0 : (0 : Int) ≤ k := by omega
      have H9 : Hid (∀ w2, Below wr.heap.size wr w2 → ∃ y, w2.cell? ⟨g, k, none⟩ = some (.string y) ∧ w2.frozen? ⟨g, k, none⟩ = false ∧ RowV (w2.setCell ⟨g, k, none⟩ (.string x)) g (svl (mks k0 (k + 1) ++ l.drop (k + 1))) ∧ But g w (w2.setCell ⟨g, k, none⟩ (.string x))) := fun w2 b2 => by
        have r2 := H8.out.1.below b2 hgw
        exact ⟨_, r2.cell (svl_get hlen), r2.frozen (by rw [svl_length]; exact hlen), r2.setS hlen (HS.out trivial), (H8.out.2.trans (But.of b2)).trans (But.set g k w2 _)⟩
      clear hI hB hlen hkl H8 HI1 HS
      go_wp2_with (first
        | (go_at_call 50; refine (hM _).mono ?_; rintro e w1 ⟨rfl, hB1⟩; obtain ⟨y, cg, hfz, hR, hBt⟩ := H9.out w1 hB1; have HR : Hid _ := And.intro hR hBt; clear hR hBt))
      exact ⟨⟨k + 1, by go_num, by push_cast; go_num, hlt, HR.out.1, HR.out.2⟩, by simp [intOf]; omega⟩
    · obtain rfl : k = n := by omega
      have hd : l.drop k = [] := List.drop_of_length_le (by have := HN.out; omega)
      rw [hd, List.append_nil] at hI
      go_wp2
      go_ret
      exact ⟨rfl, hI, hB⟩
set_option maxRecDepth 100000 in
set_option maxHeartbeats 1000000 in
theorem markS_nil (a : Option Addr) (c k0 : Nat) (w : World) (h2 : k0 ≤ 1000000) :
    Calls Tryd.prog 33 #[.slice a 0 c, .int .i64 (k0 : Int)] w fun e w' => e = .returned (.int .i64 (k0 : Int)) ∧ w = w' := by
  go_enter Tryd.func33, Tryd.ntmps33
  go_wp2_with fail
  go_loopw [1, 5] (fun vk i wr => i = .int .i64 0 ∧ vk = .int .i64 (k0 : Int) ∧ w = wr) (fun _ _ _ => 0)
  case atStart => exact ⟨rfl, rfl, rfl⟩
  case round =>
    obtain ⟨rfl, rfl, rfl⟩ := hrel
    go_wp2
    go_ret
    exact ⟨rfl, rfl⟩
structure KpM (w : World) (b o : Nat) (x : ByteArray) (w' : World) : Prop where
  cell : w'.cell? ⟨b, o, none⟩ = some (.string x)
  below : Below w.heap.size w w'
theorem KpM.two {w w' : World} {b o : Nat} {x : ByteArray} (h : Hid (KpM w b o x w')) : w'.cell? ⟨b, o, none⟩ = some (.string x) ∧ Hid (KpM w b o x w') := ⟨h.out.cell, h⟩
theorem KpM.drewN {w w' : World} {b o : Nat} {x : ByteArray} (h : Hid (KpM w b o x w')) (n : Nat) : Hid (KpM w b o x (w'.drewN n)) := ⟨h.out.cell, belowN h.out.below n⟩
theorem KpM.hid {w w' w2 : World} {b o : Nat} {x : ByteArray} (h : Hid (KpM w b o x w')) (h2 : Below w'.heap.size w' w2) : Hid (KpM w b o x w2) :=
  ⟨(h2.cell (p := ⟨b, o, none⟩) (cellLt h.out.cell)).trans h.out.cell, h.out.below.trans (h2.mono h.out.below.size)⟩
set_option maxRecDepth 100000 in
set_option maxHeartbeats 1000000 in
theorem heldS_any (a : Option Addr) (c n k0 : Nat) (w : World) (h : SA w a (mks k0 n)) (hb : n ≤ 1048576) (h1 : 1 ≤ k0) (h2 : k0 ≤ 1000000) :
    Calls Tryd.prog 41 #[.slice a n c, .int .i64 (k0 : Int)] w fun e w' => e = .returned (.int .i64 ((k0 + n : Nat) : Int)) ∧ Below w.heap.size w w' := by
  have HA : Hid (SA w a (mks k0 n)) := h
  clear h
  go_enter Tryd.func41, Tryd.ntmps41
  go_wp2_with fail
  go_loopw [1, 5] (fun vk i wr => ∃ k : Nat, i = .int .i64 (k : Int) ∧ vk = .int .i64 ((k0 + k : Nat) : Int) ∧ k ≤ n ∧ Below w.heap.size w wr) (fun _ i _ => n - (intOf i).toNat)
  case atStart => exact ⟨0, rfl, rfl, Nat.zero_le _, Below.refl _ _⟩
  case round =>
    obtain ⟨k, rfl, rfl, hk, hB⟩ := hrel
    by_cases hlt : k < n
    · have hkl : k < (mks k0 n).length := by rw [mks_length]; exact hlt
      have hM : ∀ w0, Calls Tryd.prog 50 #[.int .i64 ((k0 + k : Nat) : Int)] w0 fun e w' => e = .returned (.string (mkT (k0 + k))) ∧ Below w0.heap.size w0 w' := fun w0 => mark_any (k0 + k) w0 (by omega) (by omega)
      obtain ⟨b, o, rfl, ca⟩ := HA.out.below hB k hkl
      rw [mks_get hkl] at ca
      generalize mkT (k0 + k) = x at *
      have HS : Hid (KpM w b (o + k) x wr) := ⟨ca, hB⟩
      have t1 := txt_eq x
      have lk : (k : Int) < n := by omega
      have l0 : (0 : Int) ≤ k := by omega
      clear hB hkl HA
      go_wp2_with fail
      go_region_held3 (fun w' => w'.cell? ⟨b, o + k, none⟩ = some (.string x) ∧ Hid (KpM w b (o + k) x w'))
        (first | exact KpM.two HS | exact KpM.two (KpM.drewN HS _) | exact KpM.two (KpM.hid HS h6) | exact KpM.two (KpM.hid (KpM.drewN HS _) h6))
        (first
          | (go_at_call 50; refine (hM _).mono ?_; rintro e w6 ⟨rfl, h6⟩))
      all_goals
        have HR : Hid (Below w.heap.size w w6) := (KpM.hid (KpM.drewN HS 1) h6).out.below
        clear HS h6 hM
        go_wp2
        exact ⟨⟨k + 1, by go_num, by push_cast; go_num, hlt, HR.out⟩, by simp [intOf]; omega⟩
    · obtain rfl : k = n := by omega
      go_wp2
      go_ret
      exact ⟨rfl, hB⟩
end Go.Proofs.YtchfpiadfmnphaaDoor
