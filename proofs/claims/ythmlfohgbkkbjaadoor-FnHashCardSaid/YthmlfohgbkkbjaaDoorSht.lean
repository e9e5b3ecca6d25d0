/- Short of both sides, for every text: one text. -/
import Derived.Test.YthmlfohgbkkbjaaDoorDig
import Derived.Test.YthmlfohgbkkbjaaDoorHexI
namespace Go.Proofs.YthmlfohgbkkbjaaDoor
open Go.RowKit
set_option linter.unusedVariables false

theorem digs8_length (r : R8) : (digs8 r 8).length = 32 := rfl
theorem endD_size (r : R8) (s : ByteArray) (z : Nat) : (endD r s z).size = 32 := by
  show (digs8 _ 8).toArray.size = 32
  rw [List.size_toArray, digs8_length]
theorem digN_size (t : ByteArray) : (digN t).size = 32 := endD_size _ _ _
theorem hexL_take : ∀ (l : List UInt8) (k : Nat), hexL (l.take k) = (hexL l).take (2 * k)
  | [], k => by simp [hexL]
  | b :: l, 0 => rfl
  | b :: l, k + 1 => by
    have ih := hexL_take l k
    rw [show 2 * (k + 1) = 2 * k + 1 + 1 by omega]
    unfold hexL at ih ⊢
    rw [List.take_succ_cons, List.flatMap_cons, List.flatMap_cons, ih]
    rfl
theorem hexS_small {d : ByteArray} (h : d.size = 32) : hexS d = ⟨(hexL d.data.toList).toArray⟩ := if_neg (by omega)
theorem hexS_size {d : ByteArray} (h : d.size = 32) : (hexS d).size = 64 := by
  rw [hexS_small h]
  show (hexL d.data.toList).toArray.size = 64
  rw [List.size_toArray, hexL_length]
  have : d.data.toList.length = 32 := by rw [Array.length_toList]; exact h
  omega
theorem data_extract (d : ByteArray) (k : Nat) : (d.extract 0 k).data.toList = d.data.toList.take k := by
  rw [ByteArray.data_extract, Array.toList_extract]
  simp
theorem hexS_four {d : ByteArray} (h : d.size = 32) : hexS (d.extract 0 4) = (hexS d).extract 0 8 := by
  have h4 : (d.extract 0 4).size = 4 := by rw [ByteArray.size_extract]; omega
  rw [hexS_small h]
  unfold hexS
  rw [if_neg (by omega), data_extract, hexL_take]
  apply ByteArray.ext
  show ((hexL d.data.toList).take 8).toArray = _
  rw [ByteArray.data_extract]
  simp
theorem hexS_none : hexS ⟨#[]⟩ = ⟨#[]⟩ := by
  unfold hexS
  rw [if_neg (by decide)]
  rfl
def shrt (t : ByteArray) : ByteArray := if 20000 < t.size then ⟨#[]⟩ else hexS ((digN t).extract 0 4)

set_option maxRecDepth 100000 in
set_option maxHeartbeats 1000000 in
theorem shortS_any (t : ByteArray) (w : World) (ht : t.size ≤ maxLen) :
    Calls Tryd.prog 25 #[.string t] w fun e w' => e = .returned (.string (shrt t)) ∧ Below w.heap.size w w' := by
  have ht' := ht
  unfold maxLen at ht'
  by_cases hbig : 20000 < t.size
  · have HR : Hid (shrt t = ⟨#[]⟩) := if_pos hbig
    go_enter Tryd.func25, Tryd.ntmps25
    go_wp2
    go_ret
    exact ⟨ret_str' HR.out.symm, Below.refl _ _⟩
  have hd : ∀ w0, Calls Tryd.prog 10 #[.string t] w0 fun e w' => e = .returned (.string (digN t)) ∧ Below w0.heap.size w0 w' := fun w0 => by
    have := digestS_any t w0 ht
    rw [show digA t = digN t from if_neg hbig] at this
    exact this
  have HR : Hid (shrt t = hexS ((digN t).extract 0 4)) := if_neg hbig
  have hl := digN_size t
  generalize digN t = D at *
  obtain ⟨F, hF⟩ : ∃ F, D.extract 0 4 = F := ⟨_, rfl⟩
  have hFs : F.size ≤ maxLen := by rw [← hF, ByteArray.size_extract]; unfold maxLen; omega
  have h4 : (4 : Int) ≤ (D.size : Int) := by omega
  have HF : Hid (D.extract 0 4 = F) := hF
  clear hl ht
  go_enter Tryd.func25, Tryd.ntmps25
  go_wp2_with (first
    | (go_at_call 10; refine (hd _).mono ?_; rintro e w1 ⟨rfl, hB1⟩)
    | (go_at_call 44; refine (specHex F _ hFs).mono ?_; rintro e w2 ⟨rfl, hB2⟩))
  go_ret
  exact ⟨ret_str' (by rw [HR.out, HF.out]), hB1.trans (hB2.mono hB1.size)⟩

set_option maxRecDepth 100000 in
set_option maxHeartbeats 1000000 in
theorem shortI_any (t : ByteArray) (w : World) (ht : t.size ≤ maxLen) (hk : ArrU w 0 keys) (h0 : 0 < w.heap.size) :
    Calls Tryd.prog 16 #[.string t] w fun e w' => e = .returned (.string (shrt t)) ∧ Below w.heap.size w w' := by
  have HK : Hid (ArrU w 0 keys) := hk
  clear hk
  by_cases hbig : 20000 < t.size
  · have HR : Hid (shrt t = ⟨#[]⟩) := if_pos hbig
    have hd : Calls Tryd.prog 9 #[.string t] w fun e w' => e = .returned (.string ⟨#[]⟩) ∧ Below w.heap.size w w' := by
      have := digestI_any t w ht HK.out h0
      rw [show digA t = ⟨#[]⟩ from if_pos hbig] at this
      exact this
    have hh : ∀ w0, Calls Tryd.prog 17 #[.string ⟨#[]⟩] w0 fun e w' => e = .returned (.string ⟨#[]⟩) ∧ Below w0.heap.size w0 w' := fun w0 => by
      have := implHex ⟨#[]⟩ w0 (by decide)
      rw [hexS_none] at this
      exact this
    go_enter Tryd.func16, Tryd.ntmps16
    go_wp2_with (first
      | (go_at_call 9; refine hd.mono ?_; rintro e w1 ⟨rfl, hB1⟩)
      | (go_at_call 17; refine (hh _).mono ?_; rintro e w2 ⟨rfl, hB2⟩))
    go_ret
    exact ⟨ret_str' HR.out.symm, hB1.trans (hB2.mono hB1.size)⟩
  have hd : Calls Tryd.prog 9 #[.string t] w fun e w' => e = .returned (.string (digN t)) ∧ Below w.heap.size w w' := by
    have := digestI_any t w ht HK.out h0
    rw [show digA t = digN t from if_neg hbig] at this
    exact this
  have HR : Hid (shrt t = (hexS (digN t)).extract 0 8) := (if_neg hbig).trans (hexS_four (digN_size t))
  have hl := digN_size t
  have hs := hexS_size hl
  generalize digN t = D at *
  have hDs : D.size ≤ maxLen := by unfold maxLen; omega
  have hh : ∀ w0, Calls Tryd.prog 17 #[.string D] w0 fun e w' => e = .returned (.string (hexS D)) ∧ Below w0.heap.size w0 w' := fun w0 => implHex D w0 hDs
  generalize hexS D = X at *
  clear hl ht hDs
  go_enter Tryd.func16, Tryd.ntmps16
  go_wp2_with (first
    | (go_at_call 9; refine hd.mono ?_; rintro e w1 ⟨rfl, hB1⟩)
    | (go_at_call 17; refine (hh _).mono ?_; rintro e w2 ⟨rfl, hB2⟩))
  go_ret
  exact ⟨ret_str' HR.out.symm, hB1.trans (hB2.mono hB1.size)⟩

/- The law over Short. -/
set_option maxRecDepth 100000 in
set_option maxHeartbeats 1000000 in
theorem lawShort (t : ByteArray) (w : World) (ht : t.size ≤ maxLen) (hk : ArrU w 0 keys) (h0 : 0 < w.heap.size) :
    Calls Tryd.prog 7 #[.string t] w fun e w' => e = .returned (.bool true) ∧ Below w.heap.size w w' := by
  have ht' := ht
  unfold maxLen at ht'
  have HK : Hid (ArrU w 0 keys) := hk
  clear hk
  by_cases hbig : 1048576 < t.size
  · go_enter Tryd.func7, Tryd.ntmps7
    go_wp2
    go_ret
    exact ⟨rfl, Below.refl _ _⟩
  have h1 : ∀ w0, Calls Tryd.prog 25 #[.string t] w0 fun e w' => e = .returned (.string (shrt t)) ∧ Below w0.heap.size w0 w' := fun w0 => shortS_any t w0 ht
  have h2 : ∀ w0, ArrU w0 0 keys → 0 < w0.heap.size → Calls Tryd.prog 16 #[.string t] w0 fun e w' => e = .returned (.string (shrt t)) ∧ Below w0.heap.size w0 w' := fun w0 k1 k2 => shortI_any t w0 ht k1 k2
  generalize shrt t = D at *
  clear ht
  go_enter Tryd.func7, Tryd.ntmps7
  go_wp2_with (first
    | (go_at_call 25; refine (h1 _).mono ?_; rintro e w1 ⟨rfl, hB1⟩)
    | (go_at_call 16; refine (h2 w1 (HK.out.below hB1 h0) (by have := hB1.size; omega)).mono ?_; rintro e w2 ⟨rfl, hB2⟩))
  go_ret
  exact ⟨rfl, hB1.trans (hB2.mono hB1.size)⟩
end Go.Proofs.YthmlfohgbkkbjaaDoor
