/- Drawn labels; a drawn policy and drawn labels. -/
import Derived.Test.YtaalegjhhpfhbaaDpC
import Derived.Test.YtaalegjhhpfhbaaLabO
namespace Go.Proofs.Ytaalegjhhpfhbaa
open Go.RowKit
set_option linter.unusedVariables false

def Lab11 (g len cap : Nat) (sa : Option Addr) (w : World) (r : Ending) (w' : World) : Prop := (∃ (a : Option Addr) (n c : Nat) (l : List LabV), r = .returned (.slice a n c) ∧ (l.length = n ∧ n ≤ 100 ∧ ∀ x ∈ l, x.w) ∧ Made w w' (fun w2 => LabAt w2 a l) ∧ SrcAt w' g sa len cap ∧ w.grownBy w' (some g))
theorem Lab11.mk {g len cap : Nat} {sa : Option Addr} {w : World} {r : Ending} {w' : World} (h : (∃ (a : Option Addr) (n c : Nat) (l : List LabV), r = .returned (.slice a n c) ∧ (l.length = n ∧ n ≤ 100 ∧ ∀ x ∈ l, x.w) ∧ Made w w' (fun w2 => LabAt w2 a l) ∧ SrcAt w' g sa len cap ∧ w.grownBy w' (some g))) : Lab11 g len cap sa w r w' := h
set_option maxRecDepth 100000 in
set_option maxHeartbeats 16000000 in
theorem labels11 (g len cap : Nat) (sa : Option Addr) (w : World) (hs : SrcAt w g sa len cap) :
    Calls Try.prog 59 #[.pointer (some ⟨g, 0, none⟩)] w fun r w' => Lab11 g len cap sa w r w' := by
  have HgB : Hid (g < w.heap.size) := hs.room
  have HgG : Hid (g ∈ [g] ∨ w.heap.size ≤ g) := Or.inl (by simp)
  have hC1 : ∀ w0, (SrcAt w0 g sa len cap) → Calls Try.prog 77 #[.pointer (some ⟨g, 0, none⟩), .int .i64 4] w0 fun r w' => ∃ (Q : Nat), r = .returned (.int .i64 (Q : Int)) ∧ (Q < 4) ∧ SrcAt w' g sa len cap ∧ w0.grownBy w' (some g) := fun w0 n0 => (n_any g len cap sa _ w0 n0 (by decide) (by decide)).mono fun r w' ⟨v, h1, h2, h3, h4, h5⟩ => by obtain ⟨k, rfl⟩ := Int.eq_ofNat_of_zero_le h2; exact ⟨k, h1, by omega, h4, h5⟩
  have hC2 : ∀ w0, (SrcAt w0 g sa len cap) → Calls Try.prog 104 #[.pointer (some ⟨g, 0, none⟩)] w0 fun r w' => ∃ (t1 : ByteArray), r = .returned (.string t1) ∧ (t1.size ≤ 5) ∧ SrcAt w' g sa len cap ∧ w0.grownBy w' (some g) := fun w0 n0 => name11_any g len cap sa w0 n0
  have hC3 : ∀ w0, (SrcAt w0 g sa len cap) → Calls Try.prog 104 #[.pointer (some ⟨g, 0, none⟩)] w0 fun r w' => ∃ (t2 : ByteArray), r = .returned (.string t2) ∧ (t2.size ≤ 5) ∧ SrcAt w' g sa len cap ∧ w0.grownBy w' (some g) := fun w0 n0 => name11_any g len cap sa w0 n0
  have HS0 : Hid (Sta [g] w [] [⟨fun k => k < w.heap.size, fun w' => SrcAt w' g sa len cap⟩] w) := Sta.srcRecv hs
  clear hs
  go_enter Try.func59, Try.ntmps59
  · skip
    have HS1 : Hid (Sta [g] w [] [⟨fun k => (Value.slice none 0 0).ownBlock = some k, fun w' => LabO w' w.heap.size (.slice none 0 0) ([])⟩, ⟨fun k => k < w.heap.size, fun w' => SrcAt w' g sa len cap⟩] w) := Sta.own0 w.heap.size 88 2 HS0
    have hO2 := World.ownsRow_made (base := w.heap.size) (size := 2) (e := 88) w #[] 0 (Sta.size HS1) (by decide) (by simp)
    have hG2 := World.grownBy_alloc w (.cells #[] 88) (Value.slice none 0 0).ownBlock
    have HS2 := Sta.app 0 HS1 rfl (Nat.le_refl _) hO2 hG2 (Or.inr rfl)
    clear hO2 hG2
    go_wp2_with (first
      | (go_at_call 77; have n3_0 : SrcAt (w.alloc (.cells #[] 88)) g sa len cap := (Sta.t (i := 1) HS2 rfl :); (with_reducible refine (hC1 (w.alloc (.cells #[] 88)) n3_0).mono ?_); rintro r w3 ⟨Q, rfl, u1, hS3, hG3⟩; have Hu1 := hidP u1; clear u1; have HS3 := Sta.src 1 HS2 rfl hG3 hS3 HgB.out HgG.out; clear hS3 hG3))
    go_loopw [4, 3] (fun v0 v1 wr => ∃ (k : Nat) (aa : Option Addr) (mm : Nat) (ca : Nat) (ys : List LabV), v0 = .int .i64 ((Q : Int) - (k : Int)) ∧ v1 = .slice aa mm ca ∧ k ≤ Q ∧ Hid (ys.length = mm ∧ (∀ x ∈ ys, x.w)) ∧ Hid (mm = k ∧ k < 4) ∧ Hid (Sta [g] w [] [⟨fun k => (Value.slice aa mm ca).ownBlock = some k, fun w' => LabO w' w.heap.size (.slice aa mm ca) ys⟩, ⟨fun k => k < w.heap.size, fun w' => SrcAt w' g sa len cap⟩] wr)) (fun v0 v1 _ => (intOf v0).toNat)
    case atStart => exact ⟨0, (some ⟨w.heap.size, 0, none⟩), 0, 0, [], by simp, rfl, Nat.zero_le _, ⟨rfl, fun x hx => by cases hx⟩, ⟨rfl, by decide⟩, HS3⟩
    case round =>
      rename Go.World => wl4
      clear HS3
      obtain ⟨k, aa, mm, ca, ys, rfl, rfl, hk4, HYs, HMm, HS4⟩ := hrel
      by_cases hlt4 : k < Q
      case neg =>
        obtain rfl : Q = k := by omega
        have dq : decide ((0 : Int) < (Q : Int) - (Q : Int)) = false := decide_eq_false (by omega)
        go_wp2_with fail
        go_ret
        exact Lab11.mk ⟨aa, mm, ca, ys, rfl, ⟨HYs.out.1, by have := HMm.out; have := Hu1.out; omega, HYs.out.2⟩, (Sta.made_of (i := 0) HS4 rfl (fun k hk => (own_ge (Sta.t (i := 0) HS4 rfl : LabO _ _ _ _) hk).1)).imp (fun w2 h2 => (LabO.row h2).1.lab), (Sta.t (i := 1) HS4 rfl :), Sta.grown HS4⟩
      have lk4 : (k : Int) < Q := by omega
      have l04 : (0 : Int) ≤ k := by omega
      have dq : decide ((0 : Int) < (Q : Int) - (k : Int)) = true := decide_eq_true (by omega)
      have hQ4 := Hu1.out
      have ewq : IntKind.i64.wrap ((Q : Int) - (k : Int) - 1) = (Q : Int) - ((k + 1 : Nat) : Int) := by simp [IntKind.wrap, IntKind.signed, IntKind.bits]; omega
      go_wp2_with (first
        | (go_at_call 104; have n5_0 : SrcAt wl4 g sa len cap := (Sta.t (i := 1) HS4 rfl :); (with_reducible refine (hC2 wl4 n5_0).mono ?_); rintro r w5 ⟨t1, rfl, st1, hS5, hG5⟩; have Hst1 := hidP st1; clear st1; have HS5 := Sta.src 1 HS4 rfl hG5 hS5 HgB.out HgG.out; clear hS5 hG5)
        | ((with_reducible refine wpList_allocV (w := w5) (by with_unfolding_all rfl) 88 (by with_unfolding_all rfl) [.string ⟨#[]⟩, .string ⟨#[]⟩] Try.zT_implLabel ?_); intro w6 hA6 hB6 hS6; clear hS6; have HS6 := Sta.new HS5 hA6 hB6 (by simp); clear hA6 hB6)
        | ((with_reducible refine wpList_storeS (w := w6) (by with_unfolding_all rfl) 88 (.tmp 5) (.tmp 15) (by with_unfolding_all rfl) w5.heap.size [.string ⟨#[]⟩, .string ⟨#[]⟩] [.string t1, .string ⟨#[]⟩] (by with_unfolding_all rfl) (by with_unfolding_all rfl) (Sta.r (i := 0) HS6 (by with_unfolding_all rfl)) 2 Try.sT_implLabel (by with_unfolding_all rfl) (by with_unfolding_all rfl) (by with_unfolding_all rfl) ?_); intro w7 hA7 hO7; have HS7 := Sta.put 0 HS6 rfl hA7 (by simp) hO7; clear hA7 hO7)
        | (go_at_call 104; have n8_0 : SrcAt w7 g sa len cap := (Sta.t (i := 1) HS7 rfl :); (with_reducible refine (hC3 w7 n8_0).mono ?_); rintro r w8 ⟨t2, rfl, st2, hS8, hG8⟩; have Hst2 := hidP st2; clear st2; have HS8 := Sta.src 1 HS7 rfl hG8 hS8 HgB.out HgG.out; clear hS8 hG8)
        | ((with_reducible refine wpList_cellS (w := w8) (by with_unfolding_all rfl) 9 (.tmp 18) (.tmp 17) (by with_unfolding_all rfl) w5.heap.size 1 [.string t1, .string ⟨#[]⟩] [.string t1, .string t2] (.string t2) (by with_unfolding_all rfl) (by with_unfolding_all rfl) (by with_unfolding_all rfl) Try.s1_string (Sta.r (i := 0) HS8 (by with_unfolding_all rfl)) (by simp) (by with_unfolding_all rfl) ?_); intro w9 hA9 hO9; have HS9 := Sta.put 0 HS8 rfl hA9 (by simp) hO9; clear hA9 hO9)
        | ((with_reducible refine wpList_loadV (w := w9) (by with_unfolding_all rfl) 88 (.tmp 5) (by with_unfolding_all rfl) w5.heap.size [.string t1, .string t2] (by with_unfolding_all rfl) (Sta.r (i := 0) HS9 (by with_unfolding_all rfl)) Try.uT_implLabel 2 Try.sT_implLabel (by with_unfolding_all rfl) ?_))
        | ((with_reducible refine wpList_buildLab (w := w9) (by with_unfolding_all rfl) (.tmp 20) (by with_unfolding_all rfl) t1 t2 (by with_unfolding_all rfl) ?_); intro w10 hA10 hB10; have HS10 := Sta.new HS9 hA10 hB10 (by simp [labv]); clear hA10 hB10)
        | ((with_reducible refine wpList_appendLab (W := w10) (by with_unfolding_all rfl) (.tmp 19) (.tmp 21) (by with_unfolding_all rfl) w.heap.size (.slice aa mm ca) ys ⟨t1, t2⟩ (by with_unfolding_all rfl) (Sta.t (i := 0) HS10 rfl) w9.heap.size (by with_unfolding_all rfl) (Sta.r (i := 0) HS10 (by with_unfolding_all rfl)) (by have h1 := HYs.out.1; have h2 := HMm.out; omega) (Sta.size HS10) ?_); intro v11 w11 hO11 hG11 hb11; obtain ⟨a11, m11, c11, hm11, rfl⟩ := LabO.form hO11; have HS11 := Sta.app 0 HS10 rfl (Nat.le_refl _) hO11 hG11 hb11; have Hm11 := hidP hm11; clear hO11 hG11 hb11 hm11))
      go_roundw
      case rel => exact ⟨k + 1, a11, m11, c11, ((ys ++ ([⟨t1, t2⟩] : List LabV))), rfl, rfl, hlt4, ⟨Hm11.out, fun x hx => by rcases List.mem_append.1 hx with h | h; exact HYs.out.2 x h; rw [List.mem_singleton.1 h]; exact ⟨(show t1.size ≤ maxLen by have := Hst1.out; unfold maxLen; omega), (show t2.size ≤ maxLen by have := Hst2.out; unfold maxLen; omega)⟩⟩, ⟨by have := Hm11.out; have := HYs.out.1; have := HMm.out.1; simp at *; omega, by omega⟩, Sta.drop 2 0 HS11⟩
      case measure => (simp [intOf]; omega)
theorem made_two {w w1 w2 w3 : World} {g : Nat} {P Q : World → Prop} (hr : g < w1.heap.size) (h01 : w.heap.size ≤ w1.heap.size) (hP : Made w1 w2 P) (h12 : w1.grownBy w2 (some g)) (hQ : Made w2 w3 Q) (h23 : w2.grownBy w3 (some g)) : Made w w3 (fun w' => P w' ∧ Q w') := fun w4 hw => by
  refine ⟨hP w4 ?_, hQ w4 (hw.mono fun k hk hn => hk ⟨by have := h12.size; omega, hn.2⟩)⟩
  exact Mrk.trans ((grown_one h23).mono fun k hk hn => by rw [show k = g from hk] at hn; omega) (hw.mono fun k hk hn => hk ⟨by omega, Nat.lt_of_lt_of_le hn.2 h23.size⟩)
def Drw11 (w : World) (r : Ending) (w' : World) : Prop := (∃ (a : Option Addr) (n c : Nat) (l : List InsV) (d : Option Addr) (m e : Nat) (ls : List LabV), r = .returned (.tuple #[.slice a n c, .slice d m e]) ∧ (l.length = n ∧ n ≤ 100 ∧ (∀ x ∈ l, x.w) ∧ ls.length = m ∧ m ≤ 100 ∧ ∀ x ∈ ls, x.w) ∧ Made w w' (fun w2 => InsAt w2 a l ∧ LabAt w2 d ls) ∧ Below w.heap.size w w')
theorem Drw11.mk {w : World} {r : Ending} {w' : World} (h : (∃ (a : Option Addr) (n c : Nat) (l : List InsV) (d : Option Addr) (m e : Nat) (ls : List LabV), r = .returned (.tuple #[.slice a n c, .slice d m e]) ∧ (l.length = n ∧ n ≤ 100 ∧ (∀ x ∈ l, x.w) ∧ ls.length = m ∧ m ≤ 100 ∧ ∀ x ∈ ls, x.w) ∧ Made w w' (fun w2 => InsAt w2 a l ∧ LabAt w2 d ls) ∧ Below w.heap.size w w')) : Drw11 w r w' := h
set_option maxRecDepth 100000 in
set_option maxHeartbeats 4000000 in
theorem draw11 (len cap : Nat) (sa : Option Addr) (w : World) (hb : Bytes w sa len) (hl : len ≤ 9223372036854775807) : Calls Try.prog 23 #[.slice sa len cap] w fun r w' => Drw11 w r w' := by
  have HS := hidP (source_any len cap sa w hb hl)
  clear hb
  go_enter Try.func23, Try.ntmps23
  go_wp2_with (first
    | (go_at_call 57; (refine HS.out.mono ?_); rintro r w1 ⟨g, rfl, hg, hs, hb1⟩; have H1 := hidP (And.intro hg hb1); have H2 := hidP hs; clear hg hb1 hs)
    | (go_at_call 58; (refine (policy11 g len cap sa w1 H2.out).mono ?_); rintro r w2 ⟨a, n, c, l, rfl, hl1, hm1, hs2, hg2⟩; have H3 := hidP (And.intro hl1 hm1); have H4 := hidP hs2; have H5 := hidP hg2; clear hl1 hm1 hs2 hg2)
    | (go_at_call 59; (refine (labels11 g len cap sa w2 H4.out).mono ?_); rintro r w3 ⟨d, m, e, ls, rfl, hl2, hm2, hs3, hg3⟩; have H6 := hidP (And.intro hl2 hm2); have H7 := hidP hg3; clear hl2 hm2 hs3 hg3))
  go_ret2
  exact Drw11.mk ⟨a, n, c, l, d, m, e, ls, rfl, ⟨H3.out.1.1, H3.out.1.2.1, H3.out.1.2.2, H6.out.1.1, H6.out.1.2.1, H6.out.1.2.2⟩, made_two H2.out.room H1.out.2.size H3.out.2 H5.out H6.out.2 H7.out, Below.by (Below.by H1.out.2 H5.out H1.out.2.size H1.out.1) H7.out (Nat.le_trans H1.out.2.size H5.out.size) H1.out.1⟩
end Go.Proofs.Ytaalegjhhpfhbaa
