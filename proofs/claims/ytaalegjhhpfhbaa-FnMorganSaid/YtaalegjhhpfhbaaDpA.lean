/- A drawn policy's instructions: the leaf. -/
import Derived.Test.YtaalegjhhpfhbaaJn3
import Derived.Test.YtaalegjhhpfhbaaInsO
import Derived.Test.YtaalegjhhpfhbaaTy
namespace Go.Proofs.Ytaalegjhhpfhbaa
open Go.RowKit
set_option linter.unusedVariables false

/- How many instructions a drawn policy of a size has at most. -/
def F11 : Nat → Nat
  | 0 => 1
  | n + 1 => 2 * F11 n + 1
theorem F11_pos : ∀ n, 1 ≤ F11 n
  | 0 => Nat.le_refl _
  | n + 1 => by show 1 ≤ 2 * F11 n + 1; omega
theorem F11_ge : ∀ n, n < F11 n
  | 0 => by decide
  | n + 1 => by show n + 1 < 2 * F11 n + 1; have := F11_ge n; omega
theorem ins_w {op : Int} {k v : ByteArray} (h1 : -9223372036854775808 ≤ op) (h2 : op ≤ 9223372036854775807) (hk : k.size ≤ maxLen) (hv : v.size ≤ maxLen) : (⟨op, k, v⟩ : InsV).w := ⟨by unfold I64; simp [Lit.wf, IntKind.min, IntKind.max, IntKind.signed, IntKind.bits]; omega, hk, hv⟩
set_option maxRecDepth 100000 in
set_option maxHeartbeats 16000000 in
theorem putLeaf (g len cap B : Nat) (sa : Option Addr) (v : Value) (l : List InsV) (sz : Int) (z : Nat) (w x : World) (h : Hid (Sta [g] w [] [⟨fun k => v.ownBlock = some k, fun w' => InsO w' w.heap.size v l⟩, ⟨fun k => k < B, fun w' => SrcAt w' g sa len cap⟩] x)) (hgB : g < B) (hln : l.length + F11 (z) ≤ 900) (hlw : ∀ x ∈ l, x.w) (hsz : sz ≤ 0) :
    Calls Try.prog 103 #[.pointer (some ⟨g, 0, none⟩), v, .int .i64 sz] x fun r w' => ∃ (v' : Value) (l' : List InsV), r = .returned v' ∧ (l'.length ≤ l.length + F11 (z) ∧ (∀ x ∈ l', x.w) ∧ l.length < l'.length) ∧ Hid (Sta [g] w [] [⟨fun k => v'.ownBlock = some k, fun w' => InsO w' w.heap.size v' l'⟩, ⟨fun k => k < B, fun w' => SrcAt w' g sa len cap⟩] w') := by
  have HLn := hidP hln
  have HLw := hidP hlw
  have HgB := hidP hgB
  have HgG : Hid (g ∈ [g] ∨ w.heap.size ≤ g) := Or.inl (by simp)
  have hF := F11_pos z
  have dz : decide (sz ≤ 0) = true := decide_eq_true hsz
  have hC1 : ∀ w0, (SrcAt w0 g sa len cap) → Calls Try.prog 78 #[.pointer (some ⟨g, 0, none⟩), .int .i64 2] w0 fun r w' => ∃ (bb : Bool), r = .returned (.bool bb) ∧ SrcAt w' g sa len cap ∧ w0.grownBy w' (some g) := fun w0 n0 => (one_any g len cap sa _ w0 n0 (by decide) (by decide)).mono fun r w' ⟨b, h⟩ => ⟨b, h.out.1, h.out.2.1, h.out.2.2⟩
  have hC2 : ∀ w0, (SrcAt w0 g sa len cap) → Calls Try.prog 104 #[.pointer (some ⟨g, 0, none⟩)] w0 fun r w' => ∃ (t1 : ByteArray), r = .returned (.string t1) ∧ (t1.size ≤ 5) ∧ SrcAt w' g sa len cap ∧ w0.grownBy w' (some g) := fun w0 n0 => name11_any g len cap sa w0 n0
  have hC3 : ∀ w0, (SrcAt w0 g sa len cap) → Calls Try.prog 104 #[.pointer (some ⟨g, 0, none⟩)] w0 fun r w' => ∃ (t2 : ByteArray), r = .returned (.string t2) ∧ (t2.size ≤ 5) ∧ SrcAt w' g sa len cap ∧ w0.grownBy w' (some g) := fun w0 n0 => name11_any g len cap sa w0 n0
  have HS0 : Hid (Sta [g] w [] [⟨fun k => (v).ownBlock = some k, fun w' => InsO w' w.heap.size (v) l⟩, ⟨fun k => k < B, fun w' => SrcAt w' g sa len cap⟩] x) := h
  clear h
  go_enter Try.func103, Try.ntmps103
  go_wp2_with fail
  have n1_0 : SrcAt x g sa len cap := (Sta.t (i := 1) HS0 rfl :)
  refine (hC1 x n1_0).mono ?_
  rintro r w1 ⟨bb, rfl, hS1, hG1⟩
  have HS1 := Sta.src 1 HS0 rfl hG1 hS1 HgB.out HgG.out
  clear hS1 hG1
  cases bb
  · as_aux_lemma =>
    go_wp2_with (first
      | (go_at_call 104; have n2_0 : SrcAt w1 g sa len cap := (Sta.t (i := 1) HS1 rfl :); (with_reducible refine (hC2 w1 n2_0).mono ?_); rintro r w2 ⟨t1, rfl, st1, hS2, hG2⟩; have Hst1 := hidP st1; clear st1; have HS2 := Sta.src 1 HS1 rfl hG2 hS2 HgB.out HgG.out; clear hS2 hG2)
      | ((with_reducible refine wpList_allocV (w := w2) (by with_unfolding_all rfl) 41 (by with_unfolding_all rfl) [.int .i64 0, .string ⟨#[]⟩, .string ⟨#[]⟩] Try.zT_implIns ?_); intro w3 hA3 hB3 hS3; clear hS3; have HS3 := Sta.new HS2 hA3 hB3 (by simp); clear hA3 hB3)
      | ((with_reducible refine wpList_storeS (w := w3) (by with_unfolding_all rfl) 41 (.tmp 7) (.tmp 20) (by with_unfolding_all rfl) w2.heap.size [.int .i64 0, .string ⟨#[]⟩, .string ⟨#[]⟩] [.int .i64 1, .string t1, .string ⟨#[]⟩] (by with_unfolding_all rfl) (by with_unfolding_all rfl) (Sta.r (i := 0) HS3 (by with_unfolding_all rfl)) 3 Try.sT_implIns (by with_unfolding_all rfl) (by with_unfolding_all rfl) (by with_unfolding_all rfl) ?_); intro w4 hA4 hO4; have HS4 := Sta.put 0 HS3 rfl hA4 (by simp) hO4; clear hA4 hO4)
      | (go_at_call 104; have n5_0 : SrcAt w4 g sa len cap := (Sta.t (i := 1) HS4 rfl :); (with_reducible refine (hC3 w4 n5_0).mono ?_); rintro r w5 ⟨t2, rfl, st2, hS5, hG5⟩; have Hst2 := hidP st2; clear st2; have HS5 := Sta.src 1 HS4 rfl hG5 hS5 HgB.out HgG.out; clear hS5 hG5)
      | ((with_reducible refine wpList_cellS (w := w5) (by with_unfolding_all rfl) 9 (.tmp 23) (.tmp 22) (by with_unfolding_all rfl) w2.heap.size 2 [.int .i64 1, .string t1, .string ⟨#[]⟩] [.int .i64 1, .string t1, .string t2] (.string t2) (by with_unfolding_all rfl) (by with_unfolding_all rfl) (by with_unfolding_all rfl) Try.s1_string (Sta.r (i := 0) HS5 (by with_unfolding_all rfl)) (by simp) (by with_unfolding_all rfl) ?_); intro w6 hA6 hO6; have HS6 := Sta.put 0 HS5 rfl hA6 (by simp) hO6; clear hA6 hO6)
      | ((with_reducible refine wpList_loadV (w := w6) (by with_unfolding_all rfl) 41 (.tmp 7) (by with_unfolding_all rfl) w2.heap.size [.int .i64 1, .string t1, .string t2] (by with_unfolding_all rfl) (Sta.r (i := 0) HS6 (by with_unfolding_all rfl)) Try.uT_implIns 3 Try.sT_implIns (by with_unfolding_all rfl) ?_))
      | ((with_reducible refine wpList_buildIns (w := w6) (by with_unfolding_all rfl) (.tmp 25) (by with_unfolding_all rfl) 1 t1 t2 (by with_unfolding_all rfl) ?_); intro w7 hA7 hB7; have HS7 := Sta.new HS6 hA7 hB7 (by simp [insv]); clear hA7 hB7)
      | ((with_reducible refine wpList_appendIns (W := w7) (by with_unfolding_all rfl) (.tmp 24) (.tmp 26) (by with_unfolding_all rfl) w.heap.size (v) l ⟨1, t1, t2⟩ (by with_unfolding_all rfl) (Sta.t (i := 0) HS7 rfl) w6.heap.size (by with_unfolding_all rfl) (Sta.r (i := 0) HS7 (by with_unfolding_all rfl)) (by have := HLn.out; omega) (Sta.size HS7) ?_); intro v8 w8 hO8 hG8 hb8; obtain ⟨a8, m8, c8, hm8, rfl⟩ := InsO.form hO8; have HS8 := Sta.app 0 HS7 rfl (Nat.le_refl _) hO8 hG8 hb8; have Hm8 := hidP hm8; clear hO8 hG8 hb8 hm8))
    go_ret
    exact ⟨_, (l ++ ([⟨1, t1, t2⟩] : List InsV)), rfl, ⟨by rw [List.length_append]; show l.length + 1 ≤ _; have := F11_pos z; omega, fun x hx => by rcases List.mem_append.1 hx with h | h; exact HLw.out x h; rw [List.mem_singleton.1 h]; exact ins_w (by decide) (by decide) (by have := Hst1.out; unfold maxLen; omega) (by have := Hst2.out; unfold maxLen; omega), by rw [List.length_append]; show _ < _ + 1; omega⟩, Sta.drop 2 0 HS8⟩
  · as_aux_lemma =>
    go_wp2_with (first
      | (go_at_call 104; have n9_0 : SrcAt w1 g sa len cap := (Sta.t (i := 1) HS1 rfl :); (with_reducible refine (hC2 w1 n9_0).mono ?_); rintro r w9 ⟨t1, rfl, st1, hS9, hG9⟩; have Hst1 := hidP st1; clear st1; have HS9 := Sta.src 1 HS1 rfl hG9 hS9 HgB.out HgG.out; clear hS9 hG9)
      | ((with_reducible refine wpList_buildIns (w := w9) (by with_unfolding_all rfl) (.tmp 15) (by with_unfolding_all rfl) 2 t1 (⟨#[]⟩) (by with_unfolding_all rfl) ?_); intro w10 hA10 hB10; have HS10 := Sta.new HS9 hA10 hB10 (by simp [insv]); clear hA10 hB10)
      | ((with_reducible refine wpList_appendIns (W := w10) (by with_unfolding_all rfl) (.tmp 12) (.tmp 16) (by with_unfolding_all rfl) w.heap.size (v) l ⟨2, t1, ⟨#[]⟩⟩ (by with_unfolding_all rfl) (Sta.t (i := 0) HS10 rfl) w9.heap.size (by with_unfolding_all rfl) (Sta.r (i := 0) HS10 (by with_unfolding_all rfl)) (by have := HLn.out; omega) (Sta.size HS10) ?_); intro v11 w11 hO11 hG11 hb11; obtain ⟨a11, m11, c11, hm11, rfl⟩ := InsO.form hO11; have HS11 := Sta.app 0 HS10 rfl (Nat.le_refl _) hO11 hG11 hb11; have Hm11 := hidP hm11; clear hO11 hG11 hb11 hm11))
    go_ret
    exact ⟨_, (l ++ ([⟨2, t1, ⟨#[]⟩⟩] : List InsV)), rfl, ⟨by rw [List.length_append]; show l.length + 1 ≤ _; have := F11_pos z; omega, fun x hx => by rcases List.mem_append.1 hx with h | h; exact HLw.out x h; rw [List.mem_singleton.1 h]; exact ins_w (by decide) (by decide) (by have := Hst1.out; unfold maxLen; omega) (by decide), by rw [List.length_append]; show _ < _ + 1; omega⟩, Sta.drop 1 0 HS11⟩
end Go.Proofs.Ytaalegjhhpfhbaa
