/- Marked roles are found marked; roots and trusts, marked and found marked. -/
import Derived.Test.YtdfglpbappeoaaaMkR
namespace Go.Proofs.Ytdfglpbappeoaaa
open Go.RowKit
set_option linter.unusedVariables false

theorem mrks_get (k : Int) (l : List RoleV) {i : Nat} (h : i < l.length) (h2 : i < (mrks k l).length) : (mrks k l)[i] = mrk (k + (tot (l.take i) : Int)) l[i] := by
  have e : mrks k l = mid k l l.length := (mid_all k l).symm
  have := mid_set k l h
  have h3 : i < (mid k l (i + 1)).length := by rw [mid_len _ _ _ (by omega)]; exact h
  have g1 : (mid k l (i + 1))[i] = mrk (k + (tot (l.take i) : Int)) l[i] := by
    have hs : ((mid k l i).set i (mrk (k + (tot (l.take i) : Int)) l[i]))[i]'(by rw [List.length_set, mid_len _ _ _ (by omega)]; exact h) = mrk (k + (tot (l.take i) : Int)) l[i] := by rw [List.getElem_set, if_pos rfl]
    simp only [this] at hs
    exact hs
  rw [← g1]
  have hq : (mrks k l)[i]? = (mid k l (i + 1))[i]? := by
    have e1 : mrks k l = mrks k (l.take (i + 1)) ++ mrks (k + (tot (l.take (i + 1)) : Int)) (l.drop (i + 1)) := by rw [← mrks_app, List.take_append_drop]
    have e2 : mid k l (i + 1) = mrks k (l.take (i + 1)) ++ l.drop (i + 1) := rfl
    have hl : i < (mrks k (l.take (i + 1))).length := by rw [mrks_len, List.length_take]; omega
    rw [e1, e2, List.getElem?_append_left hl, List.getElem?_append_left hl]
  rw [List.getElem?_eq_getElem h2, List.getElem?_eq_getElem h3] at hq
  exact Option.some.inj hq
structure KpHk (w : World) (g : Nat) (l : List RoleV) (w' : World) : Prop where
  below : Below w.heap.size w w'
  ro : RlsO w' g l
set_option maxRecDepth 100000 in
theorem heldI_nil (a : Option Addr) (c : Nat) (k0 : Int) (w : World) (h0 : 0 ≤ k0) (h1 : k0 ≤ 1000000000) :
    Calls Try.prog 118 #[.slice a 0 c, .int .i64 k0] w fun e w' => e = .returned (.int .i64 k0) ∧ Below w.heap.size w w' := by
  go_enter Try.func118, Try.ntmps118
  go_wp2_with fail
  go_loopw [1, 5] (fun q i wr => q = .int .i64 k0 ∧ i = .int .i64 0 ∧ wr = w) (fun _ _ _ => 0)
  case atStart => exact ⟨rfl, rfl, rfl⟩
  case round =>
    obtain ⟨rfl, rfl, rfl⟩ := hrel
    go_wp2
    go_ret
    exact ⟨rfl, Below.refl _ _⟩
set_option maxRecDepth 100000 in
set_option maxHeartbeats 4000000 in
theorem heldRls_some (g c n : Nat) (rs : List RoleV) (k0 : Int) (w : World) (hn : rs.length = n) (h : RlsO w g (mrks k0 rs)) (h0 : 0 ≤ k0) (hT : k0 + (tot rs : Int) ≤ 900000000) :
    Calls Try.prog 68 #[.slice (some ⟨g, 0, none⟩) n c, .int .i64 k0] w fun e w' => e = .returned (.int .i64 (k0 + (tot rs : Int))) ∧ Below w.heap.size w w' := by
  have HN : Hid (rs.length = n) := hn
  have HK : Hid (∀ r ∈ rs, r.ks.length ≤ 900000000) := fun r hr => by have := tot_mem hr; omega
  have hm : n ≤ 900000000 := by have := tot_len rs; omega
  have HTT : Hid (k0 + (tot rs : Int) ≤ 900000000) := hT
  have HS0 : Hid (KpHk w g (mrks k0 rs) w) := ⟨Below.refl _ _, h⟩
  have h1 : k0 ≤ 900000000 := by omega
  clear h hn hT
  go_enter Try.func68, Try.ntmps68
  go_wp2_with fail
  go_loopw [1, 5] (fun vk vi wr => ∃ (i : Nat) (k : Int), vi = .int .i64 (i : Int) ∧ vk = .int .i64 k ∧ i ≤ n ∧ 0 ≤ k ∧ k ≤ 900000000 ∧ Hid (k = k0 + (tot (rs.take i) : Int)) ∧ Hid (KpHk w g (mrks k0 rs) wr)) (fun _ vi _ => n - (intOf vi).toNat)
  case atStart => exact ⟨0, k0, rfl, rfl, Nat.zero_le _, h0, by omega, by show k0 = k0 + ((tot [] : Nat) : Int); simp [tot], HS0⟩
  case round =>
    clear HS0
    obtain ⟨i, k, rfl, rfl, hi, hk0, hk1, HT, HS⟩ := hrel
    by_cases hlt : i < n
    case neg =>
      obtain rfl : i = n := by omega
      have HF : Hid (k = k0 + (tot rs : Int)) := by show _ = _; rw [HT.out, List.take_of_length_le (by have := HN.out; omega)]
      go_wp2
      go_ret
      exact ⟨congrArg (fun z => Ending.returned (Value.int IntKind.i64 z)) HF.out, HS.out.below⟩
    have hil : i < rs.length := by have := HN.out; omega
    have hl2 : i < (mrks k0 rs).length := by rw [mrks_len]; exact hil
    have hq := flR_get (mrks k0 rs) i hl2
    have hks0 := HS.out.ro.ks i hl2
    rw [mrks_get k0 rs hil hl2, ← HT.out] at hq hks0
    have p0 : wr.cell? ⟨g, i * 2, none⟩ = some (.int .i64 k) := HS.out.ro.row.cell hq.1
    have p1 : wr.cell? ⟨g, i * 2 + 1, none⟩ = some (.slice rs[i].ka rs[i].ks.length rs[i].kc) := by
      have := HS.out.ro.row.cell hq.2
      rw [show (mrk k rs[i]).ks.length = rs[i].ks.length from cnt_length _ _] at this
      exact this
    have hks := HK.out rs[i] (List.getElem_mem hil)
    have HT2 : Hid (k + 1 + (rs[i].ks.length : Int) = k0 + (tot (rs.take (i + 1)) : Int)) := by
      show _ = _
      rw [tot_succ rs hil, HT.out]
      omega
    have HH : Hid (Calls Try.prog 118 #[.slice rs[i].ka rs[i].ks.length rs[i].kc, .int .i64 (k + 1)] wr fun e w' => e = .returned (.int .i64 (k + 1 + (rs[i].ks.length : Int))) ∧ Below wr.heap.size wr w') := heldI_any rs[i].ka rs[i].kc rs[i].ks.length (k + 1) wr hks0 (by omega) (by omega) (by omega)
    have HB : Hid (∀ w2, Below wr.heap.size wr w2 → Hid (KpHk w g (mrks k0 rs) w2)) := fun w2 hb => ⟨HS.out.below.trans (hb.mono HS.out.below.size), HS.out.ro.below (by intro e; rw [e] at hl2; exact absurd hl2 (Nat.not_lt_zero _)) hb⟩
    clear hq hks0
    generalize rs[i].ka = ka at *
    generalize rs[i].kc = kc at *
    generalize rs[i].ks = ks at *
    obtain ⟨m, hm⟩ : ∃ m, ks.length = m := ⟨_, rfl⟩
    rw [hm] at p1 hks HT2 HH
    obtain ⟨k2, hk2⟩ : ∃ k2, k + 1 + (m : Int) = k2 := ⟨_, rfl⟩
    obtain ⟨k1, hk1'⟩ : ∃ k1, k + 1 = k1 := ⟨_, rfl⟩
    rw [hk2] at HT2 HH
    rw [hk1'] at HH
    have b1 : k1 ≤ 1000000000 := by omega
    have b2 : 0 ≤ k2 := by omega
    have b3 : k2 ≤ 900000000 := by have := HT2.out; have := tot_take_le rs (i + 1); have := HTT.out; omega
    have e1 : (k == k) = true := by simp
    have e2 : (k != k) = false := by simp
    have lk : (i : Int) < n := by omega
    have l0 : (0 : Int) ≤ i := by omega
    clear hil hl2 HT hm hk2
    go_wp2_with (go_at_call 118; with_reducible refine (HH.out).mono ?_; rintro e w2 ⟨rfl, hB2⟩; have HS2 := HB.out w2 hB2)
    go_roundw
    case rel => exact ⟨i + 1, k2, by go_num, rfl, by omega, b2, b3, HT2, HS2⟩
    case measure => simp [intOf]; omega
end Go.Proofs.Ytdfglpbappeoaaa
