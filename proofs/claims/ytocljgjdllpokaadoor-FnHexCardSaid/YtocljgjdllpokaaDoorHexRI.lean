/- What the program's readHex answers, for every text: the text, and a fault that bears the code, or none. -/
import Derived.Test.YtocljgjdllpokaaDoorHexR
import Derived.Laws.Externs
namespace Go.Proofs.YtocljgjdllpokaaDoor
open Go.RowKit
set_option linter.unusedVariables false

theorem first_dig : ∀ n : Fin 256, firstIdx ⟨#[48, 49, 50, 51, 52, 53, 54, 55, 56, 57, 97, 98, 99, 100, 101, 102]⟩ (UInt8.ofNat n.val) = digI (n.val : Int) := by decide +kernel
theorem first_digI (c : Int) (h0 : 0 ≤ c) (h1 : c ≤ 255) : firstIdx ⟨#[48, 49, 50, 51, 52, 53, 54, 55, 56, 57, 97, 98, 99, 100, 101, 102]⟩ c.toNat.toUInt8 = digI c := by
  have := first_dig ⟨c.toNat, by omega⟩
  rw [Int.toNat_of_nonneg h0] at this
  exact this

theorem index_any (c : Int) (w : World) (h0 : 0 ≤ c) (h1 : c ≤ 255) :
    Calls Tryd.prog 45 #[.string ⟨#[48, 49, 50, 51, 52, 53, 54, 55, 56, 57, 97, 98, 99, 100, 101, 102]⟩, .int .u8 c] w fun e w' => e = .returned (.int .i64 (digI c)) ∧ w' = w := by
  have x1 := @run_callFunc_extern Tryd.prog 54 _ Extern.BytealgIndexByte.indexByte Tryd.func54 (by kernel_rfl) (by kernel_rfl) (by kernel_rfl) (by kernel_rfl)
  have x2 := run_indexByte_string (P := Tryd.prog) ⟨#[48, 49, 50, 51, 52, 53, 54, 55, 56, 57, 97, 98, 99, 100, 101, 102]⟩ c w
  rw [first_digI c h0 h1] at x2
  generalize digI c = d at *
  go_enter Tryd.func45, Tryd.ntmps45
  go_wp2
  go_ret
  exact ⟨rfl, rfl⟩

theorem set_zero {bs : List UInt8} {k n : Nat} {x : UInt8} (hl : bs.length = k) (hk : k < n) : bs ++ [x] ++ List.replicate (n - (k + 1)) 0 = (bs ++ List.replicate (n - k) 0).set k x := by
  subst hl
  obtain ⟨y, rfl⟩ : ∃ y, n = bs.length + 1 + y := ⟨n - (bs.length + 1), by omega⟩
  rw [show bs.length + 1 + y - bs.length = y + 1 by omega, show bs.length + 1 + y - (bs.length + 1) = y by omega, List.set_append_right _ _ (Nat.le_refl _)]
  simp [List.replicate_succ]
def hr (t : TX) : Value := .tuple #[.string t.text, errV t.code]
set_option maxRecDepth 100000 in
set_option maxHeartbeats 1000000 in
theorem readHex_any (s : ByteArray) (w : World) (hs : s.size ≤ maxLen) :
    Calls Tryd.prog 37 #[.string s] w fun e w' => e = .returned (hr (hexRd s)) ∧ Below w.heap.size w w' := by
  unfold maxLen at hs
  by_cases hbig : 20000 < s.size
  · have HR : Hid (hr (hexRd s) = .tuple #[.string ⟨#[]⟩, .iface 64 (.agg #[.int .i64 2])]) := by show hr _ = _; rw [hexRd_big hbig]; simp [hr, errV, noText]
    go_enter Tryd.func37, Tryd.ntmps37
    go_wp2
    go_ret2
    exact ⟨ret_val HR.out.symm, Below.refl _ _⟩
  by_cases hodd : s.size % 2 = 1
  · have HR : Hid (hr (hexRd s) = .tuple #[.string ⟨#[]⟩, .iface 64 (.agg #[.int .i64 3])]) := by show hr _ = _; rw [hexRd_odd hbig hodd]; simp [hr, errV, noText]
    have hodd2 : ((s.size : Int) % 2 != 0) = true := bne_iff_ne.2 (by omega)
    clear hodd
    go_enter Tryd.func37, Tryd.ntmps37
    go_wp2
    go_ret2
    exact ⟨ret_val HR.out.symm, Below.refl _ _⟩
  obtain ⟨n, hn⟩ : ∃ n, s.size = 2 * n := ⟨s.size / 2, by omega⟩
  have HN : Hid (s.size = 2 * n) := hn
  have hodd2 : ((s.size : Int) % 2 != 0) = false := by rw [bne_eq_false_iff_eq]; omega
  have hdiv : (s.size : Int) / 2 = (n : Int) := by omega
  have hn2 : n ≤ 10000 := by omega
  clear hodd hn
  obtain ⟨i0, hi, hz0, hz1, hz2⟩ := info_parts Tryd.infoU8
  go_enter Tryd.func37, Tryd.ntmps37
  go_wp2_with (first
    | (at_make; refine wpList_make_full _ rfl _ _ 22 rfl w.heap.size 5 i0 (.int .u8 0) 1 Tryd.underlying22 hi hz0 hz1 _ _ _ _ n rfl rfl (by omega) (by omega) (by rw [hz2]; omega) (by unfold maxLen; omega) (Nat.le_refl _) ?_))
  intro w1 hown1 hgr1
  have hrow1 := RowIs.made hown1 (made_zero _)
  have hb1 : Below w.heap.size w w1 := (Below.refl _ _).grown hgr1 (Nat.le_refl _) (fun _ h => by cases h)
  have HR1 : Hid (RowIs w1 w.heap.size 5 ([] ++ List.replicate (n - 0) 0)) := hrow1
  clear hown1 hgr1 hrow1 hi hz0 hz1 hz2
  go_wp2_with fail
  go_loopw [25] (fun i wr => ∃ (bs : List UInt8) (k : Nat), i = .int .i64 k ∧ k ≤ n ∧ Pr s k bs ∧ RowIs wr w.heap.size 5 (bs ++ List.replicate (n - k) 0) ∧ Below w.heap.size w wr)
    (fun i _ => n - (intOf i).toNat)
  case atStart => exact ⟨[], 0, rfl, Nat.zero_le _, Pr.start s, HR1.out, hb1⟩
  case round =>
    obtain ⟨bs, k, rfl, hk, hpr, hrow, hnx⟩ := hrel
    have HP : Hid (Pr s k bs) := hpr
    have HRow : Hid (RowIs wr w.heap.size 5 (bs ++ List.replicate (n - k) 0)) := hrow
    clear hpr hrow HR1 hb1
    by_cases hlt : k < n
    · have hjs : 2 * k + 1 < s.size := by have := HN.out; omega
      obtain ⟨ca, ha⟩ : ∃ c : Int, (s[2 * k].toNat : Int) = c := ⟨_, rfl⟩
      obtain ⟨cb, hb⟩ : ∃ c : Int, (s[2 * k + 1].toNat : Int) = c := ⟨_, rfl⟩
      have ha1 : 0 ≤ ca ∧ ca ≤ 255 := by have := s[2 * k].toNat_lt; omega
      have hb1 : 0 ≤ cb ∧ cb ≤ 255 := by have := s[2 * k + 1].toNat_lt; omega
      have HDa : Hid (∀ w1, Calls Tryd.prog 45 #[.string ⟨#[48, 49, 50, 51, 52, 53, 54, 55, 56, 57, 97, 98, 99, 100, 101, 102]⟩, .int .u8 ca] w1 fun e w' => e = .returned (.int .i64 (digI ca)) ∧ w' = w1) := fun w1 => index_any ca w1 ha1.1 ha1.2
      have HDb : Hid (∀ w1, Calls Tryd.prog 45 #[.string ⟨#[48, 49, 50, 51, 52, 53, 54, 55, 56, 57, 97, 98, 99, 100, 101, 102]⟩, .int .u8 cb] w1 fun e w' => e = .returned (.int .i64 (digI cb)) ∧ w' = w1) := fun w1 => index_any cb w1 hb1.1 hb1.2
      have ra := digI_range ca
      have rb := digI_range cb
      have HS : Hid (0 ≤ digI ca → 0 ≤ digI cb → ∃ x : UInt8, BV x = .int .u8 (16 * digI ca + digI cb) ∧ Pr s (k + 1) (bs ++ [x])) := fun h1 h2 => HP.out.step' rfl hjs ha hb h1 h2
      have HX : Hid (digI ca < 0 ∨ digI cb < 0 → hexRd s = ⟨noText, 0, 3⟩) := fun h => HP.out.bad' hbig rfl hjs ha hb h
      have HLn : Hid (bs.length = k) := HP.out.1
      clear HP
      generalize digI ca = da at *
      generalize digI cb = db at *
      go_wp2_with fail
      refine (HDa.out _).mono ?_
      rintro e w2 ⟨rfl, rfl⟩
      go_wp2_with fail
      refine (HDb.out _).mono ?_
      rintro e w3 ⟨rfl, rfl⟩
      clear HDa HDb
      by_cases hda : da < 0
      · have HF : Hid (hr (hexRd s) = .tuple #[.string ⟨#[]⟩, .iface 64 (.agg #[.int .i64 3])]) := by show hr _ = _; rw [HX.out (Or.inl hda)]; simp [hr, errV, noText]
        clear HX HS HRow
        go_wp2
        go_ret2
        exact ⟨ret_val HF.out.symm, hnx⟩
      by_cases hdb : db < 0
      · have HF : Hid (hr (hexRd s) = .tuple #[.string ⟨#[]⟩, .iface 64 (.agg #[.int .i64 3])]) := by show hr _ = _; rw [HX.out (Or.inr hdb)]; simp [hr, errV, noText]
        clear HX HS HRow
        go_wp2
        go_ret2
        exact ⟨ret_val HF.out.symm, hnx⟩
      obtain ⟨x, hx, hp2⟩ := HS.out (by omega) (by omega)
      have HV : Hid (BV x = .int .u8 (16 * da + db)) := hx
      have HP2 : Hid (Pr s (k + 1) (bs ++ [x])) := hp2
      obtain ⟨old, hcl⟩ : ∃ o : Value, w3.cell? ⟨w.heap.size, k, none⟩ = some o := ⟨_, HRow.out.cell (k := k) (by have := HLn.out; simp; omega)⟩
      have hfr := HRow.out.frozen k
      have HR2 : Hid (∀ W, W = w3.setCell ⟨w.heap.size, k, none⟩ (.int .u8 (16 * da + db)) → RowIs W w.heap.size 5 (bs ++ [x] ++ List.replicate (n - (k + 1)) 0)) := by
        rintro W rfl
        exact HRow.out.set k HV.out (set_zero HLn.out hlt)
      clear hx hp2 HS HX ha hb HRow
      go_wp2
      go_roundw
      case rel => exact ⟨bs ++ [x], k + 1, by go_num, hlt, HP2.out, HR2.out _ rfl, hnx.setCell (Nat.le_refl _) _⟩
      case measure => simp [intOf]; omega
    · obtain rfl : k = n := by omega
      have HF : Hid (hr (hexRd s) = .tuple #[.string ⟨bs.toArray⟩, .nilIface]) := by show hr _ = _; rw [HP.out.done hbig HN.out]; simp [hr, errV]
      have hrow := HRow.out
      rw [Nat.sub_self] at hrow
      have hown := hrow.owns (n := k) (base := w.heap.size) (by simpa using HP.out.1) (Nat.le_refl _) (by unfold maxLen; omega)
      have hconv := run_conv_own 22 Tryd.underlying22 Tryd.underlying5 hown 9 Tryd.underlying9
      rw [List.replicate_zero, List.append_nil] at hconv
      obtain ⟨y, hy⟩ : ∃ y : ByteArray, y = ⟨bs.toArray⟩ := ⟨_, rfl⟩
      rw [← hy] at hconv HF
      clear hown hrow hy HRow
      go_wp2
      go_ret2
      exact ⟨ret_val HF.out.symm, hnx⟩
end Go.Proofs.YtocljgjdllpokaaDoor
