/- The law FnExactRootBytes, walked. -/
import Derived.Test.YtnlalnkoggkdfaaRtW
import Derived.Test.YtnlalnkoggkdfaaRlB
namespace Go.Proofs.Ytnlalnkoggkdfaa
open Go.RowKit
set_option linter.unusedVariables false

theorem putRls_keys (T : ByteArray) (rs : List RoleV) : putRls T rs = (keys rs).foldl (fun t x => putKs ((t ++ putS x.1) ++ putS (x.2.length : Int)) x.2) T := by
  unfold putRls keys
  rw [List.foldl_map]
  rfl
theorem rootBy_keys {v e : Int} {rs rs' : List RoleV} (h : keys rs = keys rs') : rootBy v e rs = rootBy v e rs' := by
  unfold rootBy rootT
  rw [rootB_keys h, putRls_keys _ rs, putRls_keys _ rs', h]
set_option maxRecDepth 100000 in
set_option maxHeartbeats 2000000 in
theorem lawRootBytes (v e : Int) (a : Option Addr) (c n : Nat) (rs : List RoleV) (w : World) (hn : rs.length = n) (h : RlsAt w a rs) (hnm : n ≤ maxLen) (hw : ∀ r ∈ rs, RoleW r) (hv : I64 v) (he : I64 e) :
    Calls Try.prog 4 #[.agg #[.int .i64 v, .int .i64 e, .slice a n c]] w fun r w' => r = .returned (.bool true) ∧ Below w.heap.size w w' := by
  have HA : Hid (RlsAt w a rs) := h
  have HZ : Hid (∀ w0, RlsAt w0 a rs → Calls Try.prog 14 #[.agg #[.int .i64 v, .int .i64 e, .slice a n c], .int .i64 1048576] w0 fun r w' => (∃ z : Int, r = .returned (.int .i64 z) ∧ (0 ≤ z → n ≤ 1048576 ∧ ∀ r ∈ rs, r.ks.length ≤ 1048576)) ∧ Below w0.heap.size w0 w') := fun w0 h0 => szRt_any v e a c n rs w0 hn h0 hnm hw
  have HT : Hid ((n ≤ 1048576 ∧ ∀ r ∈ rs, r.ks.length ≤ 1048576) → ∀ w0, Hid (KpRt w w.heap.size v e a n c rs w0) → Calls Try.prog 16 #[.agg #[.int .i64 v, .int .i64 e, .slice a n c]] w0 fun r w' => ∃ g rs', r = .returned (.agg #[.int .i64 v, .int .i64 e, .slice (some ⟨g, 0, none⟩) n n]) ∧ keys rs' = keys rs ∧ RlsAt w' (some ⟨g, 0, none⟩) rs' ∧ Below w0.heap.size w0 w') := fun hb w0 h0 => toRt_any v e a c n rs w0 hn h0.out.rl hb.1 hb.2
  have hS : ∀ w0 g rs', keys rs' = keys rs → RlsAt w0 (some ⟨g, 0, none⟩) rs' → Calls Try.prog 19 #[.agg #[.int .i64 v, .int .i64 e, .slice (some ⟨g, 0, none⟩) n n]] w0 fun r w' => r = .returned (.string (rootBy v e rs)) ∧ Below w0.heap.size w0 w' := fun w0 g rs' hk h0 => by
    rw [← rootBy_keys hk]
    exact specRootB v e _ n n rs' w0 ((keys_len hk).trans hn) h0 hnm (roleW_keys hk.symm hw) hv he
  have hI : ∀ w0 gx g rs', keys rs' = keys rs → Hid (KpRX w v e a n c rs gx g rs' w0) → Calls Try.prog 20 #[.agg #[.int .i64 v, .int .i64 e, .slice (some ⟨g, 0, none⟩) n n]] w0 fun r w' => r = .returned (.string (rootBy v e rs)) ∧ Below w0.heap.size w0 w' := fun w0 gx g rs' hk h0 => by
    rw [← rootBy_keys hk]
    exact implRootB v e _ n n rs' w0 ((keys_len hk).trans hn) h0.out.rl hnm (roleW_keys hk.symm hw) hv he
  have hE : ∀ w0 gx g g8 r5 r8, keys r5 = keys rs → keys r8 = keys rs → Hid (KpRX w v e a n c rs gx g r5 w0) → RlsAt w0 (some ⟨g8, 0, none⟩) r8 → Calls Try.prog 18 #[.agg #[.int .i64 v, .int .i64 e, .slice (some ⟨g, 0, none⟩) n n], .agg #[.int .i64 v, .int .i64 e, .slice (some ⟨g8, 0, none⟩) n n]] w0 fun e w' => e = .returned (.bool true) ∧ Below w0.heap.size w0 w' := fun w0 gx g g8 r5 r8 h5 h6 h0 h8 => eqRt_any v e _ _ n n n r5 r8 w0 ((keys_len h5).trans hn) (h5.trans h6.symm) h0.out.rl h8 hnm (fun r hr => (roleW_keys h5.symm hw r hr).2.1)
  clear h hn hw hnm hv he
  obtain ⟨R, hR⟩ : ∃ R, rootBy v e rs = R := ⟨_, rfl⟩
  rw [hR] at hS hI
  clear hR
  have hrr := txt_eq R
  go_enter Try.func4, Try.ntmps4
  go_wp2_with (first
    | (with_reducible refine wpList_boxV (w := w) (by with_unfolding_all rfl) 24 (.tmp 0) (by with_unfolding_all rfl) (rtv v e a n c) (by with_unfolding_all rfl) ?_; intro w1 hA1 hB1 hS1; clear hS1; have HS1 := KpRt.start HA hB1 hA1; obtain ⟨p0, p1, p2, _⟩ := KpRt.all HS1))
  refine (HZ.out w1 HS1.out.rl).mono ?_
  rintro r w2 ⟨⟨z, rfl, hz⟩, hB2⟩
  have HZ2 : Hid (0 ≤ z → n ≤ 1048576 ∧ ∀ r ∈ rs, r.ks.length ≤ 1048576) := hz
  have HS2 := KpRt.call HS1 hB2
  obtain ⟨q0, q1, q2, _⟩ := KpRt.all HS2
  clear HZ HS1 hB1 hA1 HA p0 p1 p2 hB2 hz
  by_cases hneg : z < 0
  · go_wp2
    go_ret
    exact ⟨rfl, HS2.out.below⟩
  have hT := HT.out (HZ2.out (by omega))
  clear HT HZ2
  go_wp2_with (first
    | (go_at_call 16; with_reducible refine (hT w2 HS2).mono ?_; rintro r w3 ⟨g3, r3, rfl, hk3, hI3, hB3⟩; have HS3 := KpRt.call HS2 hB3)
    | (go_at_call 19; with_reducible refine (hS w3 g3 r3 hk3 hI3).mono ?_; rintro r w4 ⟨rfl, hB4⟩; have HS4 := KpRt.call HS3 hB4; obtain ⟨p0, p1, p2, _⟩ := KpRt.all HS4; clear hk3 hI3)
    | (go_at_call 16; with_reducible refine (hT w4 HS4).mono ?_; rintro r w5 ⟨g5, r5, rfl, hk5, hI5, hB5⟩; have HS5 := KpRt.call HS4 hB5; have HX6 := KpRX.start HS5 hI5 29)
    | (go_at_call 20; with_reducible refine (hI _ _ _ _ hk5 HX6).mono ?_; rintro r w7 ⟨rfl, hB7⟩; have HX7 := KpRX.call HX6 hB7; have HXd := KpRX.drew HX7))
  clear HX7 HX6 HS5 HS4 HS3 HS2 hI hS q0 q1 q2 p0 p1 p2 hB7 hB5 hB4 hB3 hI5
  go_region_held3 (fun w' => w'.cell? ⟨w5.heap.size, 0, none⟩ = some (.int .i64 v) ∧ w'.cell? ⟨w5.heap.size, 1, none⟩ = some (.int .i64 e) ∧ w'.cell? ⟨w5.heap.size, 2, none⟩ = some (.slice (some ⟨g5, 0, none⟩) n n) ∧ w'.cell? ⟨w.heap.size, 0, none⟩ = some (.int .i64 v) ∧ w'.cell? ⟨w.heap.size, 1, none⟩ = some (.int .i64 e) ∧ w'.cell? ⟨w.heap.size, 2, none⟩ = some (.slice a n c) ∧ Hid (KpRX w v e a n c rs w5.heap.size g5 r5 w'))
    (first | exact KpRX.six HXd | exact KpRX.six (KpRX.call HXd h8) | exact KpRX.six (KpRX.call (KpRX.call HXd h8) h9))
    (first
      | (go_at_call 16; with_reducible refine (hT _ (KpRX.kpH HXd)).mono ?_; rintro r w8 ⟨g8, r8, rfl, hk8, hI8, h8⟩)
      | (go_at_call 18; with_reducible refine (hE _ _ _ _ _ _ hk5 hk8 (KpRX.call HXd h8) hI8).mono ?_; rintro r w9 ⟨rfl, h9⟩))
  all_goals
    have HX9 := KpRX.call (KpRX.call HXd h8) h9
    go_wp2_with fail
    go_ret
    exact ⟨rfl, HX9.out.kp.below⟩
end Go.Proofs.Ytnlalnkoggkdfaa
