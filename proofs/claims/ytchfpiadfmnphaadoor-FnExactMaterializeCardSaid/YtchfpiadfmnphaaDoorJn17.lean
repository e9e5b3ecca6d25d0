/- A text, a place and a code, as one value; faults; and that two such values, if they are the same, are told to be so. What the program's readNum answers, for every text and place: the number, the place behind it, and a fault that bears the code, or none. What getN tells: a code of 0 with a number, or another code with none. The text that stands at a place of a text, said once: what both GetText functions answer. -/
import Derived.Test.YtchfpiadfmnphaaDoorRows
import Derived.WalkKit
import Derived.ProofKit
import Derived.Test.YtchfpiadfmnphaaDoorJn5
namespace Go.Proofs.YtchfpiadfmnphaaDoor
open Go.RowKit
set_option linter.unusedVariables false

def errV (c : Int) : Value := if c = 0 then .nilIface else .iface 149 (.agg #[.int .i64 c])
theorem ret_val {v v' : Value} (h : v = v') : Ending.returned v = .returned v' := by rw [h]
structure TX where
  text : ByteArray
  behind : Int
  code : Int
def tv (t : TX) : Value := .agg #[.string t.text, .int .i64 t.behind, .int .i64 t.code]
def noText : ByteArray := ⟨#[]⟩
theorem below_end {w w1 : World} {v0 v1 v2 : Value} {o : Obj} {B : Nat} (hb : Below B w w1) (hB : B ≤ w1.heap.size) : Below B w ((((w1.setCell ⟨B, 0, none⟩ v0).setCell ⟨B, 1, none⟩ v1).setCell ⟨B, 2, none⟩ v2).alloc o) :=
  (((hb.setCell (Nat.le_refl _) _).setCell (Nat.le_refl _) _).setCell (Nat.le_refl _) _).alloc (by simpa [World.setCell] using hB) _
end Go.Proofs.YtchfpiadfmnphaaDoor
namespace Go.Proofs.YtchfpiadfmnphaaDoor
open Go.RowKit
set_option linter.unusedVariables false

def rv (g : G) : Value := .tuple #[.int .i64 g.n, .int .i64 g.behind, errV g.code]
theorem rv_bad {g : G} {c : Int} (h : g = ⟨0, 0, c⟩) (hc : c ≠ 0) : rv g = .tuple #[.int .i64 0, .int .i64 0, .iface 149 (.agg #[.int .i64 c])] := by
  subst h; simp [rv, errV, hc]
theorem rv_good {g : G} {n b : Int} (h : g = ⟨n, b, 0⟩) : rv g = .tuple #[.int .i64 n, .int .i64 b, .nilIface] := by
  subst h; simp [rv, errV]

/- What holds at the three labels: more (1), last (2), wrong (0). -/
def AtMore (s : ByteArray) (a : Nat) (R : G) (act : Act) : Prop := ∃ (U : Nat → Value) (i u : Nat) (uv bv : Int),
  act = ⟨#[.string s, .int .i64 a, undef, undef, .int .i64 0, .int .i64 0, .nilIface, .int .u64 uv, U 8, .int .i64 bv, .int .i64 4, .nilIface, U 12, U 13, U 14, U 15, U 16, U 17, U 18, U 19, U 20, U 21, U 22, U 23, U 24, U 25, U 26, U 27, U 28, U 29, U 30, U 31, U 32, U 33, U 34, U 35, U 36, U 37, U 38, U 39, U 40, U 41, U 42, U 43, U 44, U 45, U 46, U 47, U 48, U 49, U 50, U 51, U 52, U 53, U 54, U 55, U 56, U 57, U 58, U 59, U 60, U 61, U 62, U 63, U 64, U 65, U 66, U 67, U 68], []⟩ ∧ uv = (u : Int) ∧ bv = (a : Int) + (i : Int) ∧ Rd s a R i u
structure Lst (a : Nat) (R : G) (i u c : Nat) : Prop where
  res : R = fin a i u c
  nine : i ≤ 9
  byte : c ≤ 255
  last : c < 128 ∨ i = 9
  room : a + i < 20000
  sum : c ≤ 127 → (i = 9 → c ≤ 1) → u + c * 128 ^ i ≤ 18446744073709551615
def AtLast (s : ByteArray) (a : Nat) (R : G) (act : Act) : Prop := ∃ (U : Nat → Value) (i u c : Nat) (uv bv cv : Int),
  act = ⟨#[.string s, .int .i64 a, undef, undef, .int .i64 0, .int .i64 0, .nilIface, .int .u64 uv, .int .u8 cv, .int .i64 bv, .int .i64 4, .nilIface, U 12, U 13, U 14, U 15, U 16, U 17, U 18, U 19, U 20, U 21, U 22, U 23, U 24, U 25, U 26, U 27, U 28, U 29, U 30, U 31, U 32, U 33, U 34, U 35, U 36, U 37, U 38, U 39, U 40, U 41, U 42, U 43, U 44, U 45, U 46, U 47, U 48, U 49, U 50, U 51, U 52, U 53, U 54, U 55, U 56, U 57, U 58, U 59, U 60, U 61, U 62, U 63, U 64, U 65, U 66, U 67, U 68], []⟩ ∧ uv = (u : Int) ∧ bv = (a : Int) + (i : Int) + 1 ∧ cv = (c : Int) ∧ Lst a R i u c
def AtWrong (s : ByteArray) (a : Nat) (R : G) (act : Act) : Prop := ∃ (U : Nat → Value) (ev : Int),
  act = ⟨#[.string s, .int .i64 a, undef, undef, .int .i64 0, .int .i64 0, .nilIface, U 7, U 8, U 9, .int .i64 ev, U 11, U 12, U 13, U 14, U 15, U 16, U 17, U 18, U 19, U 20, U 21, U 22, U 23, U 24, U 25, U 26, U 27, U 28, U 29, U 30, U 31, U 32, U 33, U 34, U 35, U 36, U 37, U 38, U 39, U 40, U 41, U 42, U 43, U 44, U 45, U 46, U 47, U 48, U 49, U 50, U 51, U 52, U 53, U 54, U 55, U 56, U 57, U 58, U 59, U 60, U 61, U 62, U 63, U 64, U 65, U 66, U 67, U 68], []⟩ ∧ R = ⟨0, 0, ev⟩ ∧ ev ≠ 0
theorem AtMore.mk {s : ByteArray} {a : Nat} {R : G} {act : Act} (i u : Nat) {uv bv : Int} (h : act = ⟨#[.string s, .int .i64 a, undef, undef, .int .i64 0, .int .i64 0, .nilIface, .int .u64 uv, act.tmps.getD 8 undef, .int .i64 bv, .int .i64 4, .nilIface, act.tmps.getD 12 undef, act.tmps.getD 13 undef, act.tmps.getD 14 undef, act.tmps.getD 15 undef, act.tmps.getD 16 undef, act.tmps.getD 17 undef, act.tmps.getD 18 undef, act.tmps.getD 19 undef, act.tmps.getD 20 undef, act.tmps.getD 21 undef, act.tmps.getD 22 undef, act.tmps.getD 23 undef, act.tmps.getD 24 undef, act.tmps.getD 25 undef, act.tmps.getD 26 undef, act.tmps.getD 27 undef, act.tmps.getD 28 undef, act.tmps.getD 29 undef, act.tmps.getD 30 undef, act.tmps.getD 31 undef, act.tmps.getD 32 undef, act.tmps.getD 33 undef, act.tmps.getD 34 undef, act.tmps.getD 35 undef, act.tmps.getD 36 undef, act.tmps.getD 37 undef, act.tmps.getD 38 undef, act.tmps.getD 39 undef, act.tmps.getD 40 undef, act.tmps.getD 41 undef, act.tmps.getD 42 undef, act.tmps.getD 43 undef, act.tmps.getD 44 undef, act.tmps.getD 45 undef, act.tmps.getD 46 undef, act.tmps.getD 47 undef, act.tmps.getD 48 undef, act.tmps.getD 49 undef, act.tmps.getD 50 undef, act.tmps.getD 51 undef, act.tmps.getD 52 undef, act.tmps.getD 53 undef, act.tmps.getD 54 undef, act.tmps.getD 55 undef, act.tmps.getD 56 undef, act.tmps.getD 57 undef, act.tmps.getD 58 undef, act.tmps.getD 59 undef, act.tmps.getD 60 undef, act.tmps.getD 61 undef, act.tmps.getD 62 undef, act.tmps.getD 63 undef, act.tmps.getD 64 undef, act.tmps.getD 65 undef, act.tmps.getD 66 undef, act.tmps.getD 67 undef, act.tmps.getD 68 undef], []⟩) (hu : uv = (u : Int)) (hb : bv = (a : Int) + (i : Int)) (hr : Rd s a R i u) : AtMore s a R act :=
  ⟨fun k => act.tmps.getD k undef, i, u, uv, bv, h, hu, hb, hr⟩
theorem AtLast.mk {s : ByteArray} {a : Nat} {R : G} {act : Act} (i u c : Nat) {uv bv cv : Int} (h : act = ⟨#[.string s, .int .i64 a, undef, undef, .int .i64 0, .int .i64 0, .nilIface, .int .u64 uv, .int .u8 cv, .int .i64 bv, .int .i64 4, .nilIface, act.tmps.getD 12 undef, act.tmps.getD 13 undef, act.tmps.getD 14 undef, act.tmps.getD 15 undef, act.tmps.getD 16 undef, act.tmps.getD 17 undef, act.tmps.getD 18 undef, act.tmps.getD 19 undef, act.tmps.getD 20 undef, act.tmps.getD 21 undef, act.tmps.getD 22 undef, act.tmps.getD 23 undef, act.tmps.getD 24 undef, act.tmps.getD 25 undef, act.tmps.getD 26 undef, act.tmps.getD 27 undef, act.tmps.getD 28 undef, act.tmps.getD 29 undef, act.tmps.getD 30 undef, act.tmps.getD 31 undef, act.tmps.getD 32 undef, act.tmps.getD 33 undef, act.tmps.getD 34 undef, act.tmps.getD 35 undef, act.tmps.getD 36 undef, act.tmps.getD 37 undef, act.tmps.getD 38 undef, act.tmps.getD 39 undef, act.tmps.getD 40 undef, act.tmps.getD 41 undef, act.tmps.getD 42 undef, act.tmps.getD 43 undef, act.tmps.getD 44 undef, act.tmps.getD 45 undef, act.tmps.getD 46 undef, act.tmps.getD 47 undef, act.tmps.getD 48 undef, act.tmps.getD 49 undef, act.tmps.getD 50 undef, act.tmps.getD 51 undef, act.tmps.getD 52 undef, act.tmps.getD 53 undef, act.tmps.getD 54 undef, act.tmps.getD 55 undef, act.tmps.getD 56 undef, act.tmps.getD 57 undef, act.tmps.getD 58 undef, act.tmps.getD 59 undef, act.tmps.getD 60 undef, act.tmps.getD 61 undef, act.tmps.getD 62 undef, act.tmps.getD 63 undef, act.tmps.getD 64 undef, act.tmps.getD 65 undef, act.tmps.getD 66 undef, act.tmps.getD 67 undef, act.tmps.getD 68 undef], []⟩) (hu : uv = (u : Int)) (hb : bv = (a : Int) + (i : Int) + 1) (hc : cv = (c : Int)) (hl : Lst a R i u c) : AtLast s a R act :=
  ⟨fun k => act.tmps.getD k undef, i, u, c, uv, bv, cv, h, hu, hb, hc, hl⟩
theorem AtWrong.mk {s : ByteArray} {a : Nat} {R : G} {act : Act} {ev : Int} (h : act = ⟨#[.string s, .int .i64 a, undef, undef, .int .i64 0, .int .i64 0, .nilIface, act.tmps.getD 7 undef, act.tmps.getD 8 undef, act.tmps.getD 9 undef, .int .i64 ev, act.tmps.getD 11 undef, act.tmps.getD 12 undef, act.tmps.getD 13 undef, act.tmps.getD 14 undef, act.tmps.getD 15 undef, act.tmps.getD 16 undef, act.tmps.getD 17 undef, act.tmps.getD 18 undef, act.tmps.getD 19 undef, act.tmps.getD 20 undef, act.tmps.getD 21 undef, act.tmps.getD 22 undef, act.tmps.getD 23 undef, act.tmps.getD 24 undef, act.tmps.getD 25 undef, act.tmps.getD 26 undef, act.tmps.getD 27 undef, act.tmps.getD 28 undef, act.tmps.getD 29 undef, act.tmps.getD 30 undef, act.tmps.getD 31 undef, act.tmps.getD 32 undef, act.tmps.getD 33 undef, act.tmps.getD 34 undef, act.tmps.getD 35 undef, act.tmps.getD 36 undef, act.tmps.getD 37 undef, act.tmps.getD 38 undef, act.tmps.getD 39 undef, act.tmps.getD 40 undef, act.tmps.getD 41 undef, act.tmps.getD 42 undef, act.tmps.getD 43 undef, act.tmps.getD 44 undef, act.tmps.getD 45 undef, act.tmps.getD 46 undef, act.tmps.getD 47 undef, act.tmps.getD 48 undef, act.tmps.getD 49 undef, act.tmps.getD 50 undef, act.tmps.getD 51 undef, act.tmps.getD 52 undef, act.tmps.getD 53 undef, act.tmps.getD 54 undef, act.tmps.getD 55 undef, act.tmps.getD 56 undef, act.tmps.getD 57 undef, act.tmps.getD 58 undef, act.tmps.getD 59 undef, act.tmps.getD 60 undef, act.tmps.getD 61 undef, act.tmps.getD 62 undef, act.tmps.getD 63 undef, act.tmps.getD 64 undef, act.tmps.getD 65 undef, act.tmps.getD 66 undef, act.tmps.getD 67 undef, act.tmps.getD 68 undef], []⟩) (hr : R = ⟨0, 0, ev⟩) (he : ev ≠ 0) : AtWrong s a R act :=
  ⟨fun k => act.tmps.getD k undef, ev, h, hr, he⟩

theorem rv3 {n n' b b' : Int} {e : Value} (h1 : n = n') (h2 : b = b') : Value.tuple #[.int .i64 n, .int .i64 b, e] = .tuple #[.int .i64 n', .int .i64 b', e] := by rw [h1, h2]
theorem shl_more {a i u c : Nat} (hc : 128 ≤ c) (h : u + (c - 128) * 128 ^ i ≤ 18446744073709551615) :
    IntKind.u64.wrap ((u : Int) + IntKind.u64.wrap (((c : Int) - 128) * 2 ^ (7 * (a + i + 1 - a - 1)))) = ((u + (c - 128) * 128 ^ i : Nat) : Int) := by
  rw [show a + i + 1 - a - 1 = i by omega, show (c : Int) - 128 = ((c - 128 : Nat) : Int) by omega, shl_z (by omega)]
  generalize (c - 128) * 128 ^ i = z at *
  simp [IntKind.wrap, IntKind.signed, IntKind.bits]
  omega

set_option maxRecDepth 100000 in
set_option maxHeartbeats 1000000 in
theorem readNum_any (s : ByteArray) (p : Int) (w : World) (hs : s.size ≤ maxLen) (hp : I64 p) :
    Calls Tryd.prog 103 #[.string s, .int .i64 p] w fun e w' => e = .returned (rv (getN s p)) ∧ w' = w := by
  unfold maxLen at hs
  by_cases hbig : 20000 < s.size
  · have HR : Hid (rv (getN s p) = _) := rv_bad (c := 2) (by unfold getN; rw [if_pos hbig]) (by decide)
    go_enter Tryd.func103, Tryd.ntmps103
    go_wp2
    go_step3
    go_wp2
    rw [Exit.noGoto_ret]
    go_ret3
    exact ⟨ret_val HR.out.symm, rfl⟩
  by_cases hneg : p < 0
  · have HR : Hid (rv (getN s p) = _) := rv_bad (c := 1) (by unfold getN; rw [if_neg hbig, if_pos hneg]) (by decide)
    go_enter Tryd.func103, Tryd.ntmps103
    go_wp2
    go_step3
    go_wp2
    rw [Exit.noGoto_ret]
    go_ret3
    exact ⟨ret_val HR.out.symm, rfl⟩
  obtain ⟨a, rfl⟩ := Int.eq_ofNat_of_zero_le (show 0 ≤ p by omega)
  have ha : (a : Int) ≤ 9223372036854775807 := hp.bd.2
  have HR : Hid (getN s (a : Int) = scan s a 10 0 0) := by show getN _ _ = _; unfold getN; rw [if_neg hbig, if_neg hneg]; rfl
  have hst := Rd.start s a
  generalize scan s a 10 0 0 = R at *
  have HS : Hid (Rd s a R 0 0) := hst
  clear hp hneg hst
  go_enter Tryd.func103, Tryd.ntmps103
  go_wp2
  refine wp_scope_three (fun act w' => AtWrong s a R act ∧ w' = w) (fun act w' => AtMore s a R act ∧ w' = w) (fun act w' => AtLast s a R act ∧ w' = w) (fun act _ => 20000 - (intOf (act.tmps.getD 9 undef)).toNat) rfl rfl rfl ?_ ?_ ?_ ?_
  · intro hP
    have HP := hP
    clear hP
    go_wp2
    go_step3
    rename_i K hK
    exact hK _ _ (HP _ _ ⟨AtMore.mk 0 0 rfl rfl (by simp) HS.out, rfl⟩)
  · rintro act w' ⟨⟨U, i, u, uv, bv, rfl, rfl, rfl, hrd⟩, rfl⟩
    have hk := hrd.1
    have HRd : Hid (Rd s a R i u) := hrd
    clear hrd HS
    by_cases hlt : a + i < s.size
    · obtain ⟨c, hc⟩ : ∃ c : Nat, s[a + i].toNat = c := ⟨_, rfl⟩
      have hc1 : c ≤ 255 := by have := s[a + i].toNat_lt; omega
      have hc2 : (s[a + i].toNat : Int) = (c : Int) := by omega
      have HC : Hid (s[a + i].toNat = c) := hc
      clear hc
      have hroom : a + i < 20000 := by omega
      by_cases h128 : 128 ≤ c
      · by_cases h9 : 9 ≤ i
        · have hb : ((a : Int) + (i : Int) + 1 - (a : Int) == 10) = true := beq_iff_eq.2 (by omega)
          have HL : Hid (Lst a R i u c) := ⟨HRd.out.last hlt HC.out (by omega), hk, hc1, by omega, hroom, fun h => by omega⟩
          clear HRd
          go_wp2
          go_step3
          exact ⟨AtLast.mk i u c rfl rfl rfl rfl HL.out, rfl⟩
        · have hb : ((a : Int) + (i : Int) + 1 - (a : Int) == 10) = false := beq_eq_false_iff_ne.2 (by omega)
          have HRd2 : Hid (Rd s a R (i + 1) (u + (c - 128) * 128 ^ i)) := HRd.out.more hlt HC.out h128 (by omega)
          have HSm : Hid (IntKind.u64.wrap ((u : Int) + IntKind.u64.wrap (((c : Int) - 128) * 2 ^ (7 * (a + i + 1 - a - 1)))) = ((u + (c - 128) * 128 ^ i : Nat) : Int)) := shl_more h128 (HRd.out.sum (by omega) (by omega))
          clear HRd
          go_wp2
          go_step3
          exact ⟨⟨AtMore.mk (i + 1) _ rfl HSm.out (by omega) HRd2.out, rfl⟩, by simp [intOf]; omega⟩
      · have HL : Hid (Lst a R i u c) := ⟨HRd.out.last hlt HC.out (by omega), hk, hc1, by omega, hroom, fun h1 h2 => HRd.out.sum h1 h2⟩
        clear HRd
        go_wp2
        go_step3
        exact ⟨AtLast.mk i u c rfl rfl rfl rfl HL.out, rfl⟩
    · have HW : Hid (R = ⟨0, 0, 4⟩) := HRd.out.short hlt
      clear HRd
      go_wp2
      go_step3
      exact ⟨AtWrong.mk rfl HW.out (by decide), rfl⟩
  · rintro act w' ⟨⟨U, i, u, c, uv, bv, cv, rfl, rfl, rfl, rfl, hl⟩, rfl⟩
    have hk := hl.nine
    have hc1 := hl.byte
    have hroom := hl.room
    have HL : Hid (Lst a R i u c) := hl
    clear hl HS
    by_cases hbad : (9 ≤ i ∧ 1 < c) ∨ (c ≤ 0 ∧ 0 < i)
    · have HW : Hid (R = ⟨0, 0, 3⟩) := by show R = _; rw [HL.out.res, fin_bad (by omega)]
      clear HL
      rcases hbad with ⟨hb1, hb2⟩ | ⟨hb1, hb2⟩
      · have hb : ((a : Int) + (i : Int) + 1 - (a : Int) == 10) = true := beq_iff_eq.2 (by omega)
        go_wp2
        go_step3
        exact ⟨AtWrong.mk rfl HW.out (by decide), rfl⟩
      · have hb' : ((a : Int) + (i : Int) + 1 - (a : Int) == 1) = false := beq_eq_false_iff_ne.2 (by omega)
        have hz : ((c : Int) != 0) = false := by simp; omega
        by_cases h9 : 9 ≤ i
        · have hb : ((a : Int) + (i : Int) + 1 - (a : Int) == 10) = true := beq_iff_eq.2 (by omega)
          go_wp2
          go_step3
          exact ⟨AtWrong.mk rfl HW.out (by decide), rfl⟩
        · have hb : ((a : Int) + (i : Int) + 1 - (a : Int) == 10) = false := beq_eq_false_iff_ne.2 (by omega)
          go_wp2
          go_step3
          exact ⟨AtWrong.mk rfl HW.out (by decide), rfl⟩
    · have hlast := HL.out.last
      have hsum := HL.out.sum (by omega) (by omega)
      obtain ⟨z, hz⟩ : ∃ z : Nat, c * 128 ^ i = z := ⟨_, rfl⟩
      have e1 : IntKind.u64.wrap ((c : Int) * 2 ^ (7 * (a + i + 1 - a - 1))) = (z : Int) := by
        rw [show a + i + 1 - a - 1 = i by omega, shl_z (by omega), hz]
      rw [hz] at hsum
      have hsum2 : (u : Int) + (z : Int) ≤ 18446744073709551615 := by omega
      have HF : Hid (getN s a = ⟨unf (u + z), ((a + i + 1 : Nat) : Int), 0⟩) := by show getN _ _ = _; rw [HR.out, HL.out.res, fin_good (by omega), hz]
      have hways : (9 ≤ i ∧ 0 < c ∧ c ≤ 1) ∨ (0 < i ∧ i < 9 ∧ 0 < c) ∨ i ≤ 0 := by omega
      clear HR HL hz hsum hbad hlast
      have hb10 : ((a : Int) + (i : Int) + 1 - (a : Int) == 10) = decide (9 ≤ i) := by
        by_cases h : 9 ≤ i
        · rw [decide_eq_true h]; exact beq_iff_eq.2 (by omega)
        · rw [decide_eq_false h]; exact beq_eq_false_iff_ne.2 (by omega)
      have hb1 : ((a : Int) + (i : Int) + 1 - (a : Int) == 1) = decide (i ≤ 0) := by
        by_cases h : i ≤ 0
        · rw [decide_eq_true h]; exact beq_iff_eq.2 (by omega)
        · rw [decide_eq_false h]; exact beq_eq_false_iff_ne.2 (by omega)
      rcases Nat.mod_two_eq_zero_or_one (u + z) with hpar | hpar
      · have HU := unf_even hpar
        have HV : Hid (rv (getN s a) = _) := rv_good (HF.out.trans (by rw [HU]))
        have hpi : ((u : Int) + (z : Int)) % 2 < 1 := by omega
        clear HU hpar HF
        rcases hways with ⟨hw1, hw2, hw3⟩ | ⟨hw1, hw2, hw3⟩ | hw1
        all_goals
          first
            | (rw [decide_eq_true (show 9 ≤ i by omega)] at hb10)
            | (rw [decide_eq_false (show ¬ 9 ≤ i by omega)] at hb10)
          first
            | (rw [decide_eq_true (show i ≤ 0 by omega)] at hb1)
            | (rw [decide_eq_false (show ¬ i ≤ 0 by omega)] at hb1)
          try have hc0 : ((c : Int) != 0) = true := bne_iff_ne.2 (by omega)
          go_wp2
          simp only [ExitThree]
          go_ret3
          exact ⟨ret_val (HV.out.trans (rv3 (by omega) (by omega))).symm, rfl⟩
      · have HU := unf_odd hpar
        have HV : Hid (rv (getN s a) = _) := rv_good (HF.out.trans (by rw [HU]))
        have hpi : 1 ≤ ((u : Int) + (z : Int)) % 2 := by omega
        clear HU hpar HF
        rcases hways with ⟨hw1, hw2, hw3⟩ | ⟨hw1, hw2, hw3⟩ | hw1
        all_goals
          first
            | (rw [decide_eq_true (show 9 ≤ i by omega)] at hb10)
            | (rw [decide_eq_false (show ¬ 9 ≤ i by omega)] at hb10)
          first
            | (rw [decide_eq_true (show i ≤ 0 by omega)] at hb1)
            | (rw [decide_eq_false (show ¬ i ≤ 0 by omega)] at hb1)
          try have hc0 : ((c : Int) != 0) = true := bne_iff_ne.2 (by omega)
          go_wp2
          simp only [ExitThree]
          go_ret3
          exact ⟨ret_val (HV.out.trans (rv3 (by omega) (by omega))).symm, rfl⟩
  · rintro act w' ⟨⟨U, ev, rfl, hr, he⟩, rfl⟩
    have HF : Hid (rv (getN s a) = _) := rv_bad (HR.out.trans hr) he
    clear HR hr HS
    go_wp2
    simp only [ExitThree]
    go_ret3
    exact ⟨ret_val HF.out.symm, rfl⟩
end Go.Proofs.YtchfpiadfmnphaaDoor
namespace Go.Proofs.YtchfpiadfmnphaaDoor
open Go.RowKit
set_option linter.unusedVariables false

/- The code is 0, with a number; or it is not, with none. -/
theorem fin_code (a i u c : Nat) : (fin a i u c).code = 0 ∨ fin a i u c = ⟨0, 0, 3⟩ := by
  unfold fin; split
  · exact Or.inr rfl
  · exact Or.inl rfl
theorem scan_code (s : ByteArray) (a : Nat) : ∀ f i u, (scan s a f i u).code = 0 ∨ ∃ c, c ≠ 0 ∧ scan s a f i u = ⟨0, 0, c⟩
  | 0, _, _ => Or.inr ⟨3, by decide, rfl⟩
  | f + 1, i, u => by
    unfold scan
    split
    · split
      · rcases fin_code a i u _ with h | h
        · exact Or.inl h
        · exact Or.inr ⟨3, by decide, h⟩
      · exact scan_code s a f _ _
    · exact Or.inr ⟨4, by decide, rfl⟩
theorem getN_code (s : ByteArray) (p : Int) : (getN s p).code = 0 ∨ ∃ c, c ≠ 0 ∧ getN s p = ⟨0, 0, c⟩ := by
  unfold getN
  split
  · exact Or.inr ⟨2, by decide, rfl⟩
  · split
    · exact Or.inr ⟨1, by decide, rfl⟩
    · exact scan_code s _ _ _ _

end Go.Proofs.YtchfpiadfmnphaaDoor
namespace Go.Proofs.YtchfpiadfmnphaaDoor
open Go.RowKit
set_option linter.unusedVariables false

def getT (s : ByteArray) (p : Int) : TX :=
  if (getN s p).code ≠ 0 then ⟨noText, 0, (getN s p).code⟩
  else if (getN s p).n < 0 ∨ 20000 < (getN s p).n then ⟨noText, 0, 3⟩
  else if (s.size : Int) < (getN s p).behind + (getN s p).n then ⟨noText, 0, 4⟩
  else ⟨s.extract (getN s p).behind.toNat ((getN s p).behind + (getN s p).n).toNat, (getN s p).behind + (getN s p).n, 0⟩
theorem scan_behind (s : ByteArray) (a : Nat) : ∀ f i u, (scan s a f i u).code = 0 → ∃ b : Nat, (scan s a f i u).behind = (b : Int) ∧ b ≤ s.size
  | 0, _, _ => fun h => absurd (show (3 : Int) = 0 from h) (by decide)
  | f + 1, i, u => by
    intro h
    unfold scan at h ⊢
    split at h
    · rename_i hlt
      rw [dif_pos hlt]
      split at h
      · rename_i hl
        rw [if_pos hl]
        unfold fin at h ⊢
        split at h
        · exact absurd h (by decide)
        · rename_i hn
          rw [if_neg hn]
          exact ⟨_, rfl, hlt⟩
      · rename_i hl
        rw [if_neg hl]
        exact scan_behind s a f _ _ h
    · exact absurd h (by decide)
theorem getN_behind {s : ByteArray} {p : Int} (h : (getN s p).code = 0) : s.size ≤ 20000 ∧ ∃ b : Nat, (getN s p).behind = (b : Int) ∧ b ≤ s.size := by
  unfold getN at h ⊢
  split at h
  · exact absurd h (by decide)
  · rename_i h1
    rw [if_neg h1]
    split at h
    · exact absurd h (by decide)
    · rename_i h2
      rw [if_neg h2]
      exact ⟨by omega, scan_behind s _ _ _ _ h⟩
/- The five ways of an answer. -/
theorem getT_ways (s : ByteArray) (p : Int) :
    (∃ c, c ≠ 0 ∧ getN s p = ⟨0, 0, c⟩ ∧ getT s p = ⟨noText, 0, c⟩) ∨
    (∃ (n : Int) (b : Nat), getN s p = ⟨n, b, 0⟩ ∧ (n < 0 ∨ 20000 < n) ∧ s.size ≤ 20000 ∧ b ≤ s.size ∧ getT s p = ⟨noText, 0, 3⟩) ∨
    (∃ (m b : Nat), getN s p = ⟨m, b, 0⟩ ∧ m ≤ 20000 ∧ s.size < b + m ∧ s.size ≤ 20000 ∧ b ≤ s.size ∧ getT s p = ⟨noText, 0, 4⟩) ∨
    (∃ (m b : Nat), getN s p = ⟨m, b, 0⟩ ∧ m ≤ 20000 ∧ b + m ≤ s.size ∧ s.size ≤ 20000 ∧ b ≤ s.size ∧ getT s p = ⟨s.extract b (b + m), ((b + m : Nat) : Int), 0⟩) := by
  rcases getN_code s p with hc | ⟨c, hc, hg⟩
  · obtain ⟨hs, b, hb, hbs⟩ := getN_behind hc
    obtain ⟨n, hn⟩ : ∃ n, (getN s p).n = n := ⟨_, rfl⟩
    have hg : getN s p = ⟨n, b, 0⟩ := by
      cases hx : getN s p
      rw [hx] at hn hb hc
      simp at hn hb hc
      rw [hn, hb, hc]
    right
    by_cases h1 : n < 0 ∨ 20000 < n
    · exact Or.inl ⟨n, b, hg, h1, hs, hbs, by unfold getT; rw [hg]; rw [if_neg (by simp), if_pos h1]⟩
    · obtain ⟨m, rfl⟩ := Int.eq_ofNat_of_zero_le (show 0 ≤ n by omega)
      right
      by_cases h2 : s.size < b + m
      · exact Or.inl ⟨m, b, hg, by omega, h2, hs, hbs, by unfold getT; rw [hg]; rw [if_neg (by simp), if_neg h1, if_pos (by show (s.size : Int) < (b : Int) + (m : Int); omega)]⟩
      · exact Or.inr ⟨m, b, hg, by omega, by omega, hs, hbs, by unfold getT; rw [hg]; rw [if_neg (by simp), if_neg h1, if_neg (by show ¬ (s.size : Int) < (b : Int) + (m : Int); omega)]; rfl⟩
  · exact Or.inl ⟨c, hc, hg, by unfold getT; rw [hg]; rw [if_pos hc]⟩
end Go.Proofs.YtchfpiadfmnphaaDoor
