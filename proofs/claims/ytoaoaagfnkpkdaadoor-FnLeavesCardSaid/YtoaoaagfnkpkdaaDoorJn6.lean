/- Marks in texts: what the laws' helpers markText, markStringS, heldStringS answer. Proofs with a code beside them: what the laws' helpers eqProofOut, markProofOut, heldProofOut answer. -/
import Derived.Test.YtoaoaagfnkpkdaaDoorOwnS
import Derived.Test.YtoaoaagfnkpkdaaDoorOwn
namespace Go.Proofs.YtoaoaagfnkpkdaaDoor
open Go.RowKit
set_option linter.unusedVariables false

/- The digits of a number ahead of a text. -/
def decF : Nat → Nat → ByteArray → ByteArray
  | 0, _, out => out
  | f + 1, k, out => if k = 0 then out else decF f (k / 10) (⟨#[UInt8.ofNat (48 + k % 10)]⟩ ++ out)
def decT (k : Nat) (out : ByteArray) : ByteArray := decF k k out
theorem decF_fuel : ∀ (n m k : Nat) (out : ByteArray), k ≤ n → k ≤ m → decF n k out = decF m k out
  | 0, m, k, out, h1, h2 => by
    have : k = 0 := by omega
    subst this
    cases m <;> simp [decF]
  | n + 1, 0, k, out, h1, h2 => by
    have : k = 0 := by omega
    subst this
    simp [decF]
  | n + 1, m + 1, k, out, h1, h2 => by
    rw [decF, decF]
    by_cases h : k = 0
    · rw [if_pos h, if_pos h]
    · rw [if_neg h, if_neg h]
      exact decF_fuel n m _ _ (by omega) (by omega)
theorem decT_go {k : Nat} (h : k ≠ 0) (out : ByteArray) : decT k out = decT (k / 10) (⟨#[UInt8.ofNat (48 + k % 10)]⟩ ++ out) := by
  unfold decT
  obtain ⟨n, hn⟩ : ∃ n, k = n + 1 := ⟨k - 1, by omega⟩
  conv => lhs; rw [hn, decF]
  rw [← hn, if_neg h]
  exact decF_fuel _ _ _ _ (by omega) (Nat.le_refl _)
theorem decT_zero (out : ByteArray) : decT 0 out = out := rfl
def mkT (k : Nat) : ByteArray := ⟨#[109]⟩ ++ decT k ⟨#[]⟩
theorem conv_one (w : World) (b : UInt8) : ∀ dst, Tryd.prog.underlying dst = some .string → (convert 22 dst (.slice (some ⟨w.heap.size, 0, none⟩) 1 1)).run Tryd.prog (w.alloc (.cells #[BV b] 5)) = .ok (.string ⟨#[b]⟩) (w.alloc (.cells #[BV b] 5)) :=
  run_conv_own 22 Tryd.underlying22 Tryd.underlying5 (World.ownsRow_lit (base := w.heap.size) w #[BV b] 1 (Nat.le_refl _) (by unfold maxLen; omega) rfl)
set_option maxRecDepth 100000 in
set_option maxHeartbeats 1000000 in
theorem mark_any (k0 : Nat) (w : World) (h1 : 1 ≤ k0) (h2 : k0 ≤ 1000000000) :
    Calls Tryd.prog 73 #[.int .i64 (k0 : Int)] w fun e w' => e = .returned (.string (mkT k0)) ∧ Below w.heap.size w w' := by
  have d1 : decide ((k0 : Int) ≤ 0) = false := decide_eq_false (by omega)
  have HM : Hid (∀ x, decT k0 ⟨#[]⟩ = x → (⟨#[109]⟩ : ByteArray) ++ x = mkT k0) := fun x h => by rw [← h]; rfl
  go_enter Tryd.func73, Tryd.ntmps73
  go_wp2_with fail
  go_loopw [0, 3] (fun vk vo wr => ∃ (k : Nat) (out : ByteArray), vk = .int .i64 (k : Int) ∧ vo = .string out ∧ k ≤ k0 ∧ out.size ≤ 1000000000 - k ∧ Hid (decT k out = decT k0 ⟨#[]⟩) ∧ Below w.heap.size w wr) (fun vk _ _ => (intOf vk).toNat)
  case atStart => exact ⟨k0, ⟨#[]⟩, rfl, rfl, Nat.le_refl _, Nat.zero_le _, rfl, Below.refl _ _⟩
  case round =>
    obtain ⟨k, out, rfl, rfl, hk, hos, HD, hB⟩ := hrel
    have HB : Hid (Below w.heap.size w wr) := hB
    clear hB
    by_cases hz : k = 0
    · subst hz
      have HF : Hid ((⟨#[109]⟩ : ByteArray) ++ out = mkT k0) := HM.out out HD.out.symm
      clear HD HM
      go_wp2
      go_ret
      exact ⟨by rw [← HF.out]; rfl, HB.out⟩
    · have hk' : (0 : Int) < (k : Int) := by omega
      obtain ⟨b, hb⟩ : ∃ b, UInt8.ofNat (48 + k % 10) = b := ⟨_, rfl⟩
      have HE : Hid (decT (k / 10) (⟨#[b]⟩ ++ out) = decT k0 ⟨#[]⟩) := by have := HD.out; rw [decT_go hz, hb] at this; exact this
      have hbv : BV b = .int .u8 (48 + (k : Int) % 10) := by rw [← hb, BV_ofNat _ (by omega)]; congr 1
      obtain ⟨o2, ho2⟩ : ∃ o2, (⟨#[b]⟩ : ByteArray) ++ out = o2 := ⟨_, rfl⟩
      have hs2 : o2.size = 1 + out.size := by rw [← ho2, ByteArray.size_append]; rfl
      have hcv := conv_one wr b 9 Tryd.underlying9
      rw [hbv] at hcv
      rw [ho2] at HE
      have B2 : Below wr.heap.size wr (wr.alloc (.cells #[.int .u8 (48 + (k : Int) % 10)] 5)) := (Below.refl _ _).alloc (Nat.le_refl _) _
      have HB2 : Hid (Below w.heap.size w (wr.alloc (.cells #[.int .u8 (48 + (k : Int) % 10)] 5))) := HB.out.trans (B2.mono HB.out.size)
      clear HD HM hb hbv B2 HB
      go_wp2
      exact ⟨⟨k / 10, o2, by go_num, rfl, by omega, by omega, HE, HB2.out⟩, by simp [intOf]; omega⟩
/- All but one block stands. -/
def But (g : Nat) (w w' : World) : Prop := Below 0 w w' ∧ ∀ k, k ≠ g → k < w.heap.size → w'.heap[k]? = w.heap[k]?
theorem But.refl (g : Nat) (w : World) : But g w w := ⟨Below.refl _ _, fun _ _ _ => rfl⟩
theorem But.size {g : Nat} {w w' : World} (h : But g w w') : w.heap.size ≤ w'.heap.size := h.1.size
theorem But.trans {g : Nat} {a b c : World} (h : But g a b) (k : But g b c) : But g a c :=
  ⟨h.1.trans k.1, fun j hj hl => (k.2 j hj (Nat.lt_of_lt_of_le hl h.size)).trans (h.2 j hj hl)⟩
theorem But.of {g : Nat} {w w' : World} (h : Below w.heap.size w w') : But g w w' := ⟨h.mono (Nat.zero_le _), fun j _ hl => h.block j hl⟩
theorem But.set (g k : Nat) (w : World) (u : Value) : But g w (w.setCell ⟨g, k, none⟩ u) := ⟨(Below.refl _ _).setCell (Nat.zero_le _) u, fun j hj _ => Below.heap_setCell w ⟨g, k, none⟩ u j hj⟩
theorem But.below {g B : Nat} {w w' : World} (h : But g w w') (hg : B ≤ g) (hB : B ≤ w.heap.size) : Below B w w' :=
  ⟨h.1.os, h.1.tape, h.1.output, h.1.size, fun k hk => h.2 k (by omega) (by omega)⟩
theorem But.row {g j : Nat} {w w' : World} {l : List Value} (h : But g w w') (hr : RowV w j l) (hj : j ≠ g) (hl : j < w.heap.size) : RowV w' j l :=
  hr.same fun k => ⟨World.cell?_of_block (w := w) (h.2 j hj hl), World.frozen?_of_block (w := w) (h.2 j hj hl)⟩

/- The marks from a number on. -/
def mks (k n : Nat) : List ByteArray := (List.range n).map fun i => mkT (k + i)
theorem mks_length (k n : Nat) : (mks k n).length = n := by unfold mks; rw [List.length_map, List.length_range]
theorem mks_get {k n i : Nat} (h : i < (mks k n).length) : (mks k n)[i] = mkT (k + i) := by simp [mks]
theorem mks_succ (k n : Nat) : mks k (n + 1) = mks k n ++ [mkT (k + n)] := by unfold mks; rw [List.range_succ, List.map_append]; rfl
theorem mks_set (k : Nat) (l : List ByteArray) {i : Nat} (h : i < l.length) : mks k (i + 1) ++ l.drop (i + 1) = (mks k i ++ l.drop i).set i (mkT (k + i)) := by
  rw [List.set_append_right _ _ (by rw [mks_length]; exact Nat.le_refl _), mks_length, Nat.sub_self, List.drop_eq_getElem_cons h, List.set_cons_zero, mks_succ, List.append_assoc]
  rfl
set_option maxRecDepth 100000 in
set_option maxHeartbeats 1000000 in
theorem markS_row (g c n k0 : Nat) (l : List ByteArray) (w : World) (hn : l.length = n) (h : RowV w g (svl l)) (hg : g < w.heap.size) (hb : n ≤ 1048576) (h1 : 1 ≤ k0) (h2 : k0 ≤ 1000000) :
    Calls Tryd.prog 39 #[.slice (some ⟨g, 0, none⟩) n c, .int .i64 (k0 : Int)] w fun e w' => e = .returned (.int .i64 ((k0 + n : Nat) : Int)) ∧ RowV w' g (svl (mks k0 n)) ∧ But g w w' := by
  have HN : Hid (l.length = n) := hn
  have HI1 : Hid (RowV w g (svl (mks k0 0 ++ l.drop 0))) := h
  clear h hn
  go_enter Tryd.func39, Tryd.ntmps39
  go_wp2_with fail
  go_loopw [1, 5] (fun vk i wr => ∃ k : Nat, i = .int .i64 (k : Int) ∧ vk = .int .i64 ((k0 + k : Nat) : Int) ∧ k ≤ n ∧ RowV wr g (svl (mks k0 k ++ l.drop k)) ∧ But g w wr) (fun _ i _ => n - (intOf i).toNat)
  case atStart => exact ⟨0, rfl, rfl, Nat.zero_le _, HI1.out, But.refl _ _⟩
  case round =>
    obtain ⟨k, rfl, rfl, hk, hI, hB⟩ := hrel
    have H8 : Hid (RowV wr g (svl (mks k0 k ++ l.drop k)) ∧ But g w wr) := ⟨hI, hB⟩
    by_cases hlt : k < n
    · have hkl : k < l.length := by have := HN.out; omega
      have hlen : k < (mks k0 k ++ l.drop k).length := by rw [List.length_append, mks_length, List.length_drop]; omega
      have hM : ∀ w0, Calls Tryd.prog 73 #[.int .i64 ((k0 + k : Nat) : Int)] w0 fun e w' => e = .returned (.string (mkT (k0 + k))) ∧ Below w0.heap.size w0 w' := fun w0 => mark_any (k0 + k) w0 (by omega) (by omega)
      have HS : Hid (True → mks k0 (k + 1) ++ l.drop (k + 1) = (mks k0 k ++ l.drop k).set k (mkT (k0 + k))) := fun _ => mks_set k0 l hkl
      have hgw : g < wr.heap.size := Nat.lt_of_lt_of_le hg hB.size
      generalize mkT (k0 + k) = x at *
      have lk : (k : Int) < n := by omega
      have l0 : (0 : Int) ≤ k := by omega
      have H9 : Hid (∀ w2, Below wr.heap.size wr w2 → ∃ y, w2.cell? ⟨g, k, none⟩ = some (.string y) ∧ w2.frozen? ⟨g, k, none⟩ = false ∧ RowV (w2.setCell ⟨g, k, none⟩ (.string x)) g (svl (mks k0 (k + 1) ++ l.drop (k + 1))) ∧ But g w (w2.setCell ⟨g, k, none⟩ (.string x))) := fun w2 b2 => by
        have r2 := H8.out.1.below b2 hgw
        exact ⟨_, r2.cell (svl_get hlen), r2.frozen (by rw [svl_length]; exact hlen), r2.setS hlen (HS.out trivial), (H8.out.2.trans (But.of b2)).trans (But.set g k w2 _)⟩
      clear hI hB hlen hkl H8 HI1 HS
      go_wp2_with (first
        | (go_at_call 73; refine (hM _).mono ?_; rintro e w1 ⟨rfl, hB1⟩; obtain ⟨y, cg, hfz, hR, hBt⟩ := H9.out w1 hB1; have HR : Hid _ := And.intro hR hBt; clear hR hBt))
      exact ⟨⟨k + 1, by go_num, by push_cast; go_num, hlt, HR.out.1, HR.out.2⟩, by simp [intOf]; omega⟩
    · obtain rfl : k = n := by omega
      have hd : l.drop k = [] := List.drop_of_length_le (by have := HN.out; omega)
      rw [hd, List.append_nil] at hI
      go_wp2
      go_ret
      exact ⟨rfl, hI, hB⟩
set_option maxRecDepth 100000 in
set_option maxHeartbeats 1000000 in
theorem markS_nil (a : Option Addr) (c k0 : Nat) (w : World) (h2 : k0 ≤ 1000000) :
    Calls Tryd.prog 39 #[.slice a 0 c, .int .i64 (k0 : Int)] w fun e w' => e = .returned (.int .i64 (k0 : Int)) ∧ w = w' := by
  go_enter Tryd.func39, Tryd.ntmps39
  go_wp2_with fail
  go_loopw [1, 5] (fun vk i wr => i = .int .i64 0 ∧ vk = .int .i64 (k0 : Int) ∧ w = wr) (fun _ _ _ => 0)
  case atStart => exact ⟨rfl, rfl, rfl⟩
  case round =>
    obtain ⟨rfl, rfl, rfl⟩ := hrel
    go_wp2
    go_ret
    exact ⟨rfl, rfl⟩
structure KpM (w : World) (b o : Nat) (x : ByteArray) (w' : World) : Prop where
  cell : w'.cell? ⟨b, o, none⟩ = some (.string x)
  below : Below w.heap.size w w'
theorem KpM.two {w w' : World} {b o : Nat} {x : ByteArray} (h : Hid (KpM w b o x w')) : w'.cell? ⟨b, o, none⟩ = some (.string x) ∧ Hid (KpM w b o x w') := ⟨h.out.cell, h⟩
theorem KpM.drewN {w w' : World} {b o : Nat} {x : ByteArray} (h : Hid (KpM w b o x w')) (n : Nat) : Hid (KpM w b o x (w'.drewN n)) := ⟨h.out.cell, belowN h.out.below n⟩
theorem KpM.hid {w w' w2 : World} {b o : Nat} {x : ByteArray} (h : Hid (KpM w b o x w')) (h2 : Below w'.heap.size w' w2) : Hid (KpM w b o x w2) :=
  ⟨(h2.cell (p := ⟨b, o, none⟩) (cellLt h.out.cell)).trans h.out.cell, h.out.below.trans (h2.mono h.out.below.size)⟩
set_option maxRecDepth 100000 in
set_option maxHeartbeats 1000000 in
theorem heldS_any (a : Option Addr) (c n k0 : Nat) (w : World) (h : SA w a (mks k0 n)) (hb : n ≤ 1048576) (h1 : 1 ≤ k0) (h2 : k0 ≤ 1000000) :
    Calls Tryd.prog 74 #[.slice a n c, .int .i64 (k0 : Int)] w fun e w' => e = .returned (.int .i64 ((k0 + n : Nat) : Int)) ∧ Below w.heap.size w w' := by
  have HA : Hid (SA w a (mks k0 n)) := h
  clear h
  go_enter Tryd.func74, Tryd.ntmps74
  go_wp2_with fail
  go_loopw [1, 5] (fun vk i wr => ∃ k : Nat, i = .int .i64 (k : Int) ∧ vk = .int .i64 ((k0 + k : Nat) : Int) ∧ k ≤ n ∧ Below w.heap.size w wr) (fun _ i _ => n - (intOf i).toNat)
  case atStart => exact ⟨0, rfl, rfl, Nat.zero_le _, Below.refl _ _⟩
  case round =>
    obtain ⟨k, rfl, rfl, hk, hB⟩ := hrel
    by_cases hlt : k < n
    · have hkl : k < (mks k0 n).length := by rw [mks_length]; exact hlt
      have hM : ∀ w0, Calls Tryd.prog 73 #[.int .i64 ((k0 + k : Nat) : Int)] w0 fun e w' => e = .returned (.string (mkT (k0 + k))) ∧ Below w0.heap.size w0 w' := fun w0 => mark_any (k0 + k) w0 (by omega) (by omega)
      obtain ⟨b, o, rfl, ca⟩ := HA.out.below hB k hkl
      rw [mks_get hkl] at ca
      generalize mkT (k0 + k) = x at *
      have HS : Hid (KpM w b (o + k) x wr) := ⟨ca, hB⟩
      have t1 := txt_eq x
      have lk : (k : Int) < n := by omega
      have l0 : (0 : Int) ≤ k := by omega
      clear hB hkl HA
      go_wp2_with fail
      go_region_held3 (fun w' => w'.cell? ⟨b, o + k, none⟩ = some (.string x) ∧ Hid (KpM w b (o + k) x w'))
        (first | exact KpM.two HS | exact KpM.two (KpM.drewN HS _) | exact KpM.two (KpM.hid HS h6) | exact KpM.two (KpM.hid (KpM.drewN HS _) h6))
        (first
          | (go_at_call 73; refine (hM _).mono ?_; rintro e w6 ⟨rfl, h6⟩))
      all_goals
        have HR : Hid (Below w.heap.size w w6) := (KpM.hid (KpM.drewN HS 1) h6).out.below
        clear HS h6 hM
        go_wp2
        exact ⟨⟨k + 1, by go_num, by push_cast; go_num, hlt, HR.out⟩, by simp [intOf]; omega⟩
    · obtain rfl : k = n := by omega
      go_wp2
      go_ret
      exact ⟨rfl, hB⟩
end Go.Proofs.YtoaoaagfnkpkdaaDoor
namespace Go.Proofs.YtoaoaagfnkpkdaaDoor
open Go.RowKit
set_option linter.unusedVariables false

def pvl (v : Value) (z : Int) : List Value := [v, .int .i64 z]
theorem RowV.pvl {w : World} {g : Nat} {v : Value} {z : Int} (h : RowV w g (pvl v z)) : w.cell? ⟨g, 0, none⟩ = some v ∧ w.cell? ⟨g, 1, none⟩ = some (.int .i64 z) := ⟨h.cell rfl, h.cell rfl⟩
set_option maxRecDepth 100000 in
set_option maxHeartbeats 1000000 in
theorem eqP_any (a1 a2 : Option Addr) (c1 c2 n : Nat) (z : Int) (l : List ByteArray) (w : World) (hn : l.length = n) (h1 : SA w a1 l) (h2 : SA w a2 l) (hb : n ≤ 1000000000) :
    Calls Tryd.prog 38 #[.agg #[.slice a1 n c1, .int .i64 z], .agg #[.slice a2 n c2, .int .i64 z]] w fun e w' => e = .returned (.bool true) ∧ Below w.heap.size w w' := by
  have HE : Hid (∀ w0, Below w.heap.size w w0 → Calls Tryd.prog 36 #[.slice a1 n c1, .slice a2 n c2] w0 fun e w' => e = .returned (.bool true) ∧ Below w0.heap.size w0 w') := fun w0 hB => by
    have := eqS_any a1 a2 c1 c2 l l w0 (h1.below hB) (h2.below hB) (by omega) (by omega)
    rw [hn, decide_eq_true rfl] at this
    exact this
  have hz : (z != z) = false := by simp
  clear h1 h2 hn
  go_enter Tryd.func38, Tryd.ntmps38
  go_wp2_with (first
    | ((with_reducible refine wpList_boxV (w := w) (by with_unfolding_all rfl) 29 (.tmp 0) (by with_unfolding_all rfl) (pvl (.slice a1 n c1) z) (by with_unfolding_all rfl) ?_); intro w1 hA1 hB1 hS1)
    | ((with_reducible refine wpList_boxV (w := w1) (by with_unfolding_all rfl) 29 (.tmp 1) (by with_unfolding_all rfl) (pvl (.slice a2 n c2) z) (by with_unfolding_all rfl) ?_); intro w2 hA2 hB2 hS2; rw [hS1] at hA2 hB2 hS2; obtain ⟨p0, p1⟩ := (hA1.below hB2 (by omega)).pvl; obtain ⟨q0, q1⟩ := hA2.pvl; have HB2 : Hid (Below w.heap.size w w2) := hB1.trans (hB2.mono (by omega)); have HA1 : Hid (RowV w2 w.heap.size (pvl (.slice a1 n c1) z)) := hA1.below hB2 (by omega); have HA2 : Hid (RowV w2 (w.heap.size + 1) (pvl (.slice a2 n c2) z)) := hA2; clear hA1 hA2 hB1 hB2)
    | (go_at_call 36; refine (HE.out w2 HB2.out).mono ?_; rintro e w3 ⟨rfl, hB3⟩; obtain ⟨r0, r1⟩ := (HA1.out.below hB3 (by omega)).pvl; obtain ⟨s0, s1⟩ := (HA2.out.below hB3 (by omega)).pvl; clear p0 p1 q0 q1))
  go_ret
  exact ⟨rfl, HB2.out.trans (hB3.mono (by omega))⟩
set_option maxRecDepth 100000 in
set_option maxHeartbeats 1000000 in
theorem markP_row (g c n k0 : Nat) (z : Int) (l : List ByteArray) (w : World) (hn : l.length = n) (h : RowV w g (svl l)) (hg : g < w.heap.size) (hb : n ≤ 1048576) (h1 : 1 ≤ k0) (h2 : k0 ≤ 1000000) :
    Calls Tryd.prog 40 #[.agg #[.slice (some ⟨g, 0, none⟩) n c, .int .i64 z], .int .i64 (k0 : Int)] w fun e w' => e = .returned (.int .i64 ((k0 + n : Nat) : Int)) ∧ RowV w' g (svl (mks k0 n)) ∧ But g w w' := by
  have HE : Hid (∀ w0, Below w.heap.size w w0 → Calls Tryd.prog 39 #[.slice (some ⟨g, 0, none⟩) n c, .int .i64 (k0 : Int)] w0 fun e w' => e = .returned (.int .i64 ((k0 + n : Nat) : Int)) ∧ RowV w' g (svl (mks k0 n)) ∧ But g w0 w') := fun w0 hB => markS_row g c n k0 l w0 hn (h.below hB hg) (Nat.lt_of_lt_of_le hg hB.size) hb h1 h2
  clear h hn
  go_enter Tryd.func40, Tryd.ntmps40
  go_wp2_with (first
    | ((with_reducible refine wpList_boxV (w := w) (by with_unfolding_all rfl) 29 (.tmp 0) (by with_unfolding_all rfl) (pvl (.slice (some ⟨g, 0, none⟩) n c) z) (by with_unfolding_all rfl) ?_); intro w1 hA1 hB1 hS1; obtain ⟨p0, p1⟩ := hA1.pvl)
    | (go_at_call 39; refine (HE.out w1 hB1).mono ?_; rintro e w3 ⟨rfl, hR3, hB3⟩))
  go_ret
  exact ⟨rfl, hR3, (But.of hB1).trans hB3⟩
set_option maxRecDepth 100000 in
set_option maxHeartbeats 1000000 in
theorem markP_nil (a : Option Addr) (c k0 : Nat) (z : Int) (w : World) (h2 : k0 ≤ 1000000) :
    Calls Tryd.prog 40 #[.agg #[.slice a 0 c, .int .i64 z], .int .i64 (k0 : Int)] w fun e w' => e = .returned (.int .i64 (k0 : Int)) ∧ Below w.heap.size w w' := by
  have HE : ∀ w0, Calls Tryd.prog 39 #[.slice a 0 c, .int .i64 (k0 : Int)] w0 fun e w' => e = .returned (.int .i64 (k0 : Int)) ∧ w0 = w' := fun w0 => markS_nil a c k0 w0 h2
  go_enter Tryd.func40, Tryd.ntmps40
  go_wp2_with (first
    | ((with_reducible refine wpList_boxV (w := w) (by with_unfolding_all rfl) 29 (.tmp 0) (by with_unfolding_all rfl) (pvl (.slice a 0 c) z) (by with_unfolding_all rfl) ?_); intro w1 hA1 hB1 hS1; obtain ⟨p0, p1⟩ := hA1.pvl)
    | (go_at_call 39; refine (HE w1).mono ?_; rintro e w3 ⟨rfl, rfl⟩))
  go_ret
  exact ⟨rfl, hB1⟩
set_option maxRecDepth 100000 in
set_option maxHeartbeats 1000000 in
theorem heldP_any (a : Option Addr) (c n k0 : Nat) (z : Int) (w : World) (h : SA w a (mks k0 n)) (hb : n ≤ 1048576) (h1 : 1 ≤ k0) (h2 : k0 ≤ 1000000) :
    Calls Tryd.prog 41 #[.agg #[.slice a n c, .int .i64 z], .int .i64 (k0 : Int)] w fun e w' => e = .returned (.int .i64 ((k0 + n : Nat) : Int)) ∧ Below w.heap.size w w' := by
  have HE : Hid (∀ w0, Below w.heap.size w w0 → Calls Tryd.prog 74 #[.slice a n c, .int .i64 (k0 : Int)] w0 fun e w' => e = .returned (.int .i64 ((k0 + n : Nat) : Int)) ∧ Below w0.heap.size w0 w') := fun w0 hB => heldS_any a c n k0 w0 (h.below hB) hb h1 h2
  clear h
  have hz : ¬ (((k0 + n : Nat) : Int) < 0) := by omega
  generalize k0 + n = K at *
  go_enter Tryd.func41, Tryd.ntmps41
  go_wp2_with (first
    | ((with_reducible refine wpList_boxV (w := w) (by with_unfolding_all rfl) 29 (.tmp 0) (by with_unfolding_all rfl) (pvl (.slice a n c) z) (by with_unfolding_all rfl) ?_); intro w1 hA1 hB1 hS1; obtain ⟨p0, p1⟩ := hA1.pvl)
    | (go_at_call 74; refine (HE.out w1 hB1).mono ?_; rintro e w3 ⟨rfl, hB3⟩))
  go_ret
  exact ⟨rfl, hB1.trans (hB3.mono (by omega))⟩
end Go.Proofs.YtoaoaagfnkpkdaaDoor
