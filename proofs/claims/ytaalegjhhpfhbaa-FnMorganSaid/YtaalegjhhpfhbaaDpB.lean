/- A drawn policy's instructions. -/
import Derived.Test.YtaalegjhhpfhbaaDpA
namespace Go.Proofs.Ytaalegjhhpfhbaa
open Go.RowKit
set_option linter.unusedVariables false

/- What l11Put must do at sizes up to z. -/
def PutC (z : Nat) : Prop := ∀ (g len cap B : Nat) (sa : Option Addr) (v : Value) (l : List InsV) (sz : Int) (w x : World) (_ : Hid (Sta [g] w [] [⟨fun k => v.ownBlock = some k, fun w' => InsO w' w.heap.size v l⟩, ⟨fun k => k < B, fun w' => SrcAt w' g sa len cap⟩] x)) (_ : g < B) (_ : l.length + F11 z ≤ 900) (_ : ∀ x ∈ l, x.w) (_ : sz ≤ z),
    Calls Try.prog 103 #[.pointer (some ⟨g, 0, none⟩), v, .int .i64 sz] x fun r w' => ∃ (v' : Value) (l' : List InsV), r = .returned v' ∧ (l'.length ≤ l.length + F11 z ∧ (∀ x ∈ l', x.w) ∧ l.length < l'.length) ∧ Hid (Sta [g] w [] [⟨fun k => v'.ownBlock = some k, fun w' => InsO w' w.heap.size v' l'⟩, ⟨fun k => k < B, fun w' => SrcAt w' g sa len cap⟩] w')
set_option maxRecDepth 100000 in
set_option maxHeartbeats 16000000 in
theorem putNode (g len cap B : Nat) (sa : Option Addr) (v : Value) (l : List InsV) (sz : Int) (z : Nat) (w x : World) (h : Hid (Sta [g] w [] [⟨fun k => v.ownBlock = some k, fun w' => InsO w' w.heap.size v l⟩, ⟨fun k => k < B, fun w' => SrcAt w' g sa len cap⟩] x)) (hgB : g < B) (hln : l.length + F11 (z + 1) ≤ 900) (hlw : ∀ x ∈ l, x.w) (hsz : 0 < sz) (hz : sz ≤ (z : Int) + 1) (ih : PutC z) :
    Calls Try.prog 103 #[.pointer (some ⟨g, 0, none⟩), v, .int .i64 sz] x fun r w' => ∃ (v' : Value) (l' : List InsV), r = .returned v' ∧ (l'.length ≤ l.length + F11 (z + 1) ∧ (∀ x ∈ l', x.w) ∧ l.length < l'.length) ∧ Hid (Sta [g] w [] [⟨fun k => v'.ownBlock = some k, fun w' => InsO w' w.heap.size v' l'⟩, ⟨fun k => k < B, fun w' => SrcAt w' g sa len cap⟩] w') := by
  have HLn := hidP hln
  have HLw := hidP hlw
  have HgB := hidP hgB
  have HgG : Hid (g ∈ [g] ∨ w.heap.size ≤ g) := Or.inl (by simp)
  have hF := F11_pos z
  have dz : decide (sz ≤ 0) = false := decide_eq_false (by omega)
  have hz30 : z < 900 := by have h1 := F11_ge z; have h2 : F11 (z + 1) = 2 * F11 z + 1 := rfl; omega
  have hz1 : sz - 1 ≤ (z : Int) := by omega
  have ewz : IntKind.i64.wrap (sz - 1) = sz - 1 := by simp [IntKind.wrap, IntKind.signed, IntKind.bits]; omega
  have hC1 : ∀ w0, (SrcAt w0 g sa len cap) → Calls Try.prog 78 #[.pointer (some ⟨g, 0, none⟩), .int .i64 3] w0 fun r w' => ∃ (bb : Bool), r = .returned (.bool bb) ∧ SrcAt w' g sa len cap ∧ w0.grownBy w' (some g) := fun w0 n0 => (one_any g len cap sa _ w0 n0 (by decide) (by decide)).mono fun r w' ⟨b, h⟩ => ⟨b, h.out.1, h.out.2.1, h.out.2.2⟩
  have hC2 : ∀ w0, (SrcAt w0 g sa len cap) → Calls Try.prog 77 #[.pointer (some ⟨g, 0, none⟩), .int .i64 sz] w0 fun r w' => ∃ (q1 : Int), r = .returned (.int .i64 q1) ∧ (0 ≤ q1 ∧ q1 < sz) ∧ SrcAt w' g sa len cap ∧ w0.grownBy w' (some g) := fun w0 n0 => (n_any g len cap sa _ w0 n0 (by omega) (by omega)).mono fun r w' ⟨v, h1, h2, h3, h4, h5⟩ => ⟨v, h1, ⟨h2, h3⟩, h4, h5⟩
  have hC3 : ∀ w0 (q1 : Int), (Hid (Sta [g] w [] [⟨fun k => (v).ownBlock = some k, fun w' => InsO w' w.heap.size (v) l⟩, ⟨fun k => k < B, fun w' => SrcAt w' g sa len cap⟩] w0)) → (l.length + F11 z ≤ 900) → (∀ x ∈ l, x.w) → (q1 ≤ (z : Int)) → Calls Try.prog 103 #[.pointer (some ⟨g, 0, none⟩), v, .int .i64 q1] w0 fun r w' => ∃ (v1 : Value) (l1 : List InsV), r = .returned (v1) ∧ (l1.length ≤ l.length + F11 z ∧ (∀ x ∈ l1, x.w) ∧ l.length < l1.length) ∧ Hid (Sta [g] w [] [⟨fun k => (v1).ownBlock = some k, fun w' => InsO w' w.heap.size (v1) l1⟩, ⟨fun k => k < B, fun w' => SrcAt w' g sa len cap⟩] w') := fun w0 q1 n0 n1 n2 n3 => ih g len cap B sa _ _ _ w w0 n0 hgB n1 n2 n3
  have hC4 : ∀ w0, (SrcAt w0 g sa len cap) → Calls Try.prog 77 #[.pointer (some ⟨g, 0, none⟩), .int .i64 sz] w0 fun r w' => ∃ (q2 : Int), r = .returned (.int .i64 q2) ∧ (0 ≤ q2 ∧ q2 < sz) ∧ SrcAt w' g sa len cap ∧ w0.grownBy w' (some g) := fun w0 n0 => (n_any g len cap sa _ w0 n0 (by omega) (by omega)).mono fun r w' ⟨v, h1, h2, h3, h4, h5⟩ => ⟨v, h1, ⟨h2, h3⟩, h4, h5⟩
  have hC5 : ∀ w0 (v1 : Value) (l1 : List InsV) (q2 : Int), (Hid (Sta [g] w [] [⟨fun k => (v1).ownBlock = some k, fun w' => InsO w' w.heap.size (v1) l1⟩, ⟨fun k => k < B, fun w' => SrcAt w' g sa len cap⟩] w0)) → (l1.length + F11 z ≤ 900) → (∀ x ∈ l1, x.w) → (q2 ≤ (z : Int)) → Calls Try.prog 103 #[.pointer (some ⟨g, 0, none⟩), v1, .int .i64 q2] w0 fun r w' => ∃ (v2 : Value) (l2 : List InsV), r = .returned (v2) ∧ (l2.length ≤ l1.length + F11 z ∧ (∀ x ∈ l2, x.w) ∧ l1.length < l2.length) ∧ Hid (Sta [g] w [] [⟨fun k => (v2).ownBlock = some k, fun w' => InsO w' w.heap.size (v2) l2⟩, ⟨fun k => k < B, fun w' => SrcAt w' g sa len cap⟩] w') := fun w0 v1 l1 q2 n0 n1 n2 n3 => ih g len cap B sa _ _ _ w w0 n0 hgB n1 n2 n3
  have hC6 : ∀ w0, (SrcAt w0 g sa len cap) → Calls Try.prog 77 #[.pointer (some ⟨g, 0, none⟩), .int .i64 2] w0 fun r w' => ∃ (q9 : Int), r = .returned (.int .i64 q9) ∧ (0 ≤ q9 ∧ q9 < 2) ∧ SrcAt w' g sa len cap ∧ w0.grownBy w' (some g) := fun w0 n0 => (n_any g len cap sa _ w0 n0 (by decide) (by decide)).mono fun r w' ⟨v, h1, h2, h3, h4, h5⟩ => ⟨v, h1, ⟨h2, h3⟩, h4, h5⟩
  have hC7 : ∀ w0, (Hid (Sta [g] w [] [⟨fun k => (v).ownBlock = some k, fun w' => InsO w' w.heap.size (v) l⟩, ⟨fun k => k < B, fun w' => SrcAt w' g sa len cap⟩] w0)) → (l.length + F11 z ≤ 900) → (∀ x ∈ l, x.w) → ((sz - 1) ≤ (z : Int)) → Calls Try.prog 103 #[.pointer (some ⟨g, 0, none⟩), v, .int .i64 (sz - 1)] w0 fun r w' => ∃ (v1 : Value) (l1 : List InsV), r = .returned (v1) ∧ (l1.length ≤ l.length + F11 z ∧ (∀ x ∈ l1, x.w) ∧ l.length < l1.length) ∧ Hid (Sta [g] w [] [⟨fun k => (v1).ownBlock = some k, fun w' => InsO w' w.heap.size (v1) l1⟩, ⟨fun k => k < B, fun w' => SrcAt w' g sa len cap⟩] w') := fun w0 n0 n1 n2 n3 => ih g len cap B sa _ _ _ w w0 n0 hgB n1 n2 n3
  have HS0 : Hid (Sta [g] w [] [⟨fun k => (v).ownBlock = some k, fun w' => InsO w' w.heap.size (v) l⟩, ⟨fun k => k < B, fun w' => SrcAt w' g sa len cap⟩] x) := h
  clear h
  go_enter Try.func103, Try.ntmps103
  go_wp2_with fail
  have n1_0 : SrcAt x g sa len cap := (Sta.t (i := 1) HS0 rfl :)
  refine (hC1 x n1_0).mono ?_
  rintro r w1 ⟨bb, rfl, hS1, hG1⟩
  have HS1 := Sta.src 1 HS0 rfl hG1 hS1 HgB.out HgG.out
  clear hS1 hG1
  cases bb
  · as_aux_lemma =>
    go_wp2_with (first
      | (go_at_call 77; have n2_0 : SrcAt w1 g sa len cap := (Sta.t (i := 1) HS1 rfl :); (with_reducible refine (hC2 w1 n2_0).mono ?_); rintro r w2 ⟨q1, rfl, u1, hS2, hG2⟩; have Hu1 := hidP u1; clear u1; have HS2 := Sta.src 1 HS1 rfl hG2 hS2 HgB.out HgG.out; clear hS2 hG2)
      | (go_at_call 103; have n3_0 : l.length + F11 z ≤ 900 := (by have h0 := HLn.out; have h1 : F11 (z + 1) = 2 * F11 z + 1 := rfl; omega); have n3_2 : q1 ≤ (z : Int) := (by have := Hu1.out; omega); (with_reducible refine (hC3 w2 q1 HS2 n3_0 HLw.out n3_2).mono ?_); rintro r w3 ⟨v1, l1, rfl, b1, HS3⟩; have Hb1 := hidP b1; clear b1)
      | (go_at_call 77; have n4_0 : SrcAt w3 g sa len cap := (Sta.t (i := 1) HS3 rfl :); (with_reducible refine (hC4 w3 n4_0).mono ?_); rintro r w4 ⟨q2, rfl, u2, hS4, hG4⟩; have Hu2 := hidP u2; clear u2; have HS4 := Sta.src 1 HS3 rfl hG4 hS4 HgB.out HgG.out; clear hS4 hG4)
      | (go_at_call 103; have n5_0 : l1.length + F11 z ≤ 900 := (by have h0 := HLn.out; have h1 : F11 (z + 1) = 2 * F11 z + 1 := rfl; have h2 := Hb1.out.1; omega); have n5_1 : ∀ x ∈ l1, x.w := Hb1.out.2.1; have n5_2 : q2 ≤ (z : Int) := (by have := Hu2.out; omega); (with_reducible refine (hC5 w4 v1 l1 q2 HS4 n5_0 n5_1 n5_2).mono ?_); rintro r w5 ⟨v2, l2, rfl, b2, HS5⟩; have Hb2 := hidP b2; clear b2)
      | (go_at_call 77; have n6_0 : SrcAt w5 g sa len cap := (Sta.t (i := 1) HS5 rfl :); (with_reducible refine (hC6 w5 n6_0).mono ?_); rintro r w6 ⟨q9, rfl, u9, hS6, hG6⟩; have Hu9 := hidP u9; clear u9; have HS6 := Sta.src 1 HS5 rfl hG6 hS6 HgB.out HgG.out; clear hS6 hG6; have ewq : IntKind.i64.wrap (4 + q9) = 4 + q9 := (by have := Hu9.out; simp [IntKind.wrap, IntKind.signed, IntKind.bits]; omega))
      | ((with_reducible refine wpList_buildIns (w := w6) (by with_unfolding_all rfl) (.tmp 54) (by with_unfolding_all rfl) (4 + q9) (⟨#[]⟩) (⟨#[]⟩) (by with_unfolding_all rfl) ?_); intro w7 hA7 hB7; have HS7 := Sta.new HS6 hA7 hB7 (by simp [insv]); clear hA7 hB7)
      | ((with_reducible refine wpList_appendIns (W := w7) (by with_unfolding_all rfl) (.tmp 50) (.tmp 55) (by with_unfolding_all rfl) w.heap.size (v2) l2 ⟨(4 + q9), ⟨#[]⟩, ⟨#[]⟩⟩ (by with_unfolding_all rfl) (Sta.t (i := 0) HS7 rfl) w6.heap.size (by with_unfolding_all rfl) (Sta.r (i := 0) HS7 (by with_unfolding_all rfl)) (by have h0 := HLn.out; have h1 : F11 (z + 1) = 2 * F11 z + 1 := rfl; have h2 := Hb1.out.1; first | omega | (have h3 := Hb2.out.1; omega)) (Sta.size HS7) ?_); intro v8 w8 hO8 hG8 hb8; obtain ⟨a8, m8, c8, hm8, rfl⟩ := InsO.form hO8; have HS8 := Sta.app 0 HS7 rfl (Nat.le_refl _) hO8 hG8 hb8; have Hm8 := hidP hm8; clear hO8 hG8 hb8 hm8))
    go_ret
    exact ⟨_, (l2 ++ ([⟨(4 + q9), ⟨#[]⟩, ⟨#[]⟩⟩] : List InsV)), rfl, ⟨by have h1 : F11 (z + 1) = 2 * F11 z + 1 := rfl; have h2 := Hb1.out.1; have h3 := Hb2.out.1; rw [List.length_append]; show _ + 1 ≤ _; omega, fun x hx => by rcases List.mem_append.1 hx with h | h; exact Hb2.out.2.1 x h; rw [List.mem_singleton.1 h]; exact ins_w (by have := Hu9.out; omega) (by have := Hu9.out; omega) (by decide) (by decide), by have h2 := Hb1.out.2.2; have h3 := Hb2.out.2.2; rw [List.length_append]; show _ < _ + 1; omega⟩, Sta.drop 1 0 HS8⟩
  · as_aux_lemma =>
    go_wp2_with (first
      | (go_at_call 103; have n9_0 : l.length + F11 z ≤ 900 := (by have h0 := HLn.out; have h1 : F11 (z + 1) = 2 * F11 z + 1 := rfl; omega); (with_reducible refine (hC7 w1 HS1 n9_0 HLw.out hz1).mono ?_); rintro r w9 ⟨v1, l1, rfl, b1, HS9⟩; have Hb1 := hidP b1; clear b1)
      | ((with_reducible refine wpList_buildIns (w := w9) (by with_unfolding_all rfl) (.tmp 35) (by with_unfolding_all rfl) 3 (⟨#[]⟩) (⟨#[]⟩) (by with_unfolding_all rfl) ?_); intro w10 hA10 hB10; have HS10 := Sta.new HS9 hA10 hB10 (by simp [insv]); clear hA10 hB10)
      | ((with_reducible refine wpList_appendIns (W := w10) (by with_unfolding_all rfl) (.tmp 34) (.tmp 36) (by with_unfolding_all rfl) w.heap.size (v1) l1 ⟨3, ⟨#[]⟩, ⟨#[]⟩⟩ (by with_unfolding_all rfl) (Sta.t (i := 0) HS10 rfl) w9.heap.size (by with_unfolding_all rfl) (Sta.r (i := 0) HS10 (by with_unfolding_all rfl)) (by have h0 := HLn.out; have h1 : F11 (z + 1) = 2 * F11 z + 1 := rfl; have h2 := Hb1.out.1; first | omega | (have h3 := Hb2.out.1; omega)) (Sta.size HS10) ?_); intro v11 w11 hO11 hG11 hb11; obtain ⟨a11, m11, c11, hm11, rfl⟩ := InsO.form hO11; have HS11 := Sta.app 0 HS10 rfl (Nat.le_refl _) hO11 hG11 hb11; have Hm11 := hidP hm11; clear hO11 hG11 hb11 hm11))
    go_ret
    exact ⟨_, (l1 ++ ([⟨3, ⟨#[]⟩, ⟨#[]⟩⟩] : List InsV)), rfl, ⟨by have h1 : F11 (z + 1) = 2 * F11 z + 1 := rfl; have h2 := Hb1.out.1; rw [List.length_append]; show _ + 1 ≤ _; omega, fun x hx => by rcases List.mem_append.1 hx with h | h; exact Hb1.out.2.1 x h; rw [List.mem_singleton.1 h]; exact ins_w (by decide) (by decide) (by decide) (by decide), by have h2 := Hb1.out.2.2; rw [List.length_append]; show _ < _ + 1; omega⟩, Sta.drop 1 0 HS11⟩
theorem putAll : ∀ z, PutC z := by
  intro z
  induction z with
  | zero =>
    intro g len cap B sa v l sz w x h hgB hln hlw hsz
    exact putLeaf g len cap B sa v l sz 0 w x h hgB hln hlw hsz
  | succ z ih =>
    intro g len cap B sa v l sz w x h hgB hln hlw hsz
    by_cases h0 : sz ≤ 0
    · exact putLeaf g len cap B sa v l sz (z + 1) w x h hgB hln hlw h0
    · exact putNode g len cap B sa v l sz z w x h hgB hln hlw (by omega) (by omega) ih
end Go.Proofs.Ytaalegjhhpfhbaa
