/- Trusts: their cells; how much room they take, turned to the program's, held against others. -/
import Derived.Test.YtdfglpbappeoaabDoorTrZ
import Derived.Test.YtdfglpbappeoaabDoorRlM
import Derived.Test.YtdfglpbappeoaabDoorRlE
import Derived.Test.YtdfglpbappeoaabDoorLkL
import Derived.Test.YtdfglpbappeoaabDoorHdR
namespace Go.Proofs.YtdfglpbappeoaabDoor
open Go.RowKit
set_option linter.unusedVariables false

def trv (rv re : Int) (ra : Option Addr) (rn rc : Nat) (t1 t2 t3 s1 s2 s3 gv ge : Int) (ga : Option Addr) (gn gc : Nat) (hs : Int) (hr : ByteArray) (ht : Int) : List Value := [.int .i64 rv, .int .i64 re, .slice ra rn rc, .int .i64 t1, .int .i64 t2, .int .i64 t3, .int .i64 s1, .int .i64 s2, .int .i64 s3, .int .i64 gv, .int .i64 ge, .slice ga gn gc, .int .i64 hs, .string hr, .int .i64 ht]
theorem RowV.tr {w : World} {g : Nat} {rv re : Int} {rn : Nat} {t1 t2 t3 s1 s2 s3 gv ge : Int} {gn : Nat} {hs : Int} {hr : ByteArray} {ht : Int} {ra ga : Option Addr} {rc gc : Nat} (h : RowV w g (trv rv re ra rn rc t1 t2 t3 s1 s2 s3 gv ge ga gn gc hs hr ht)) : w.cell? ⟨g, 0, none⟩ = some (.int .i64 rv) ∧ w.cell? ⟨g, 1, none⟩ = some (.int .i64 re) ∧ w.cell? ⟨g, 2, none⟩ = some (.slice ra rn rc) ∧ w.cell? ⟨g, 3, none⟩ = some (.int .i64 t1) ∧ w.cell? ⟨g, 4, none⟩ = some (.int .i64 t2) ∧ w.cell? ⟨g, 5, none⟩ = some (.int .i64 t3) ∧ w.cell? ⟨g, 6, none⟩ = some (.int .i64 s1) ∧ w.cell? ⟨g, 7, none⟩ = some (.int .i64 s2) ∧ w.cell? ⟨g, 8, none⟩ = some (.int .i64 s3) ∧ w.cell? ⟨g, 9, none⟩ = some (.int .i64 gv) ∧ w.cell? ⟨g, 10, none⟩ = some (.int .i64 ge) ∧ w.cell? ⟨g, 11, none⟩ = some (.slice ga gn gc) ∧ w.cell? ⟨g, 12, none⟩ = some (.int .i64 hs) ∧ w.cell? ⟨g, 13, none⟩ = some (.string hr) ∧ w.cell? ⟨g, 14, none⟩ = some (.int .i64 ht) :=
  ⟨h.cell (k := 0) rfl, h.cell (k := 1) rfl, h.cell (k := 2) rfl, h.cell (k := 3) rfl, h.cell (k := 4) rfl, h.cell (k := 5) rfl, h.cell (k := 6) rfl, h.cell (k := 7) rfl, h.cell (k := 8) rfl, h.cell (k := 9) rfl, h.cell (k := 10) rfl, h.cell (k := 11) rfl, h.cell (k := 12) rfl, h.cell (k := 13) rfl, h.cell (k := 14) rfl⟩
structure TruU where
  rv : Int
  re : Int
  rn : Nat
  t1 : Int
  t2 : Int
  t3 : Int
  s1 : Int
  s2 : Int
  s3 : Int
  gv : Int
  ge : Int
  gn : Nat
  hs : Int
  hr : ByteArray
  ht : Int
def TruU.row (u : TruU) (ra : Option Addr) (rc : Nat) (ga : Option Addr) (gc : Nat) : List Value := trv u.rv u.re ra u.rn rc u.t1 u.t2 u.t3 u.s1 u.s2 u.s3 u.gv u.ge ga u.gn gc u.hs u.hr u.ht
theorem trow_ne (u : TruU) (ra : Option Addr) (rc : Nat) (ga : Option Addr) (gc : Nat) : u.row ra rc ga gc ≠ [] := by simp [TruU.row, trv]
structure KpTr (w : World) (g : Nat) (u : TruU) (ra : Option Addr) (rc : Nat) (rs : List RoleV) (ga : Option Addr) (gc : Nat) (gs : List TarV) (w' : World) : Prop where
  below : Below w.heap.size w w'
  row : RowV w' g (u.row ra rc ga gc)
  rl : RlsAt w' ra rs
  tg : TgsAt w' ga gs
theorem KpTr.start {w w' : World} {g : Nat} {u : TruU} {ra ga : Option Addr} {rc gc : Nat} {rs : List RoleV} {gs : List TarV} (h1 : RlsAt w ra rs) (h2 : TgsAt w ga gs) (hb : Below w.heap.size w w') (hr : RowV w' g (u.row ra rc ga gc)) : Hid (KpTr w g u ra rc rs ga gc gs w') := ⟨hb, hr, h1.below hb, TgsAt.below h2 hb⟩
theorem KpTr.call {w w' w2 : World} {g : Nat} {u : TruU} {ra ga : Option Addr} {rc gc : Nat} {rs : List RoleV} {gs : List TarV} (h : Hid (KpTr w g u ra rc rs ga gc gs w')) (hb : Below w'.heap.size w' w2) : Hid (KpTr w g u ra rc rs ga gc gs w2) :=
  ⟨h.out.below.trans (hb.mono h.out.below.size), h.out.row.below hb (h.out.row.lt (trow_ne _ _ _ _ _)), h.out.rl.below hb, TgsAt.below h.out.tg hb⟩
theorem KpTr.drew {w w' : World} {g : Nat} {u : TruU} {ra ga : Option Addr} {rc gc : Nat} {rs : List RoleV} {gs : List TarV} (h : Hid (KpTr w g u ra rc rs ga gc gs w')) : Hid (KpTr w g u ra rc rs ga gc gs w'.drew) := ⟨h.out.below.drew, h.out.row.drew, h.out.rl, h.out.tg⟩
theorem KpTr.all {w w' : World} {g : Nat} {rv re : Int} {rn : Nat} {t1 t2 t3 s1 s2 s3 gv ge : Int} {gn : Nat} {hs : Int} {hr : ByteArray} {ht : Int} {ra ga : Option Addr} {rc gc : Nat} {rs : List RoleV} {gs : List TarV} (h : Hid (KpTr w g ⟨rv, re, rn, t1, t2, t3, s1, s2, s3, gv, ge, gn, hs, hr, ht⟩ ra rc rs ga gc gs w')) : w'.cell? ⟨g, 0, none⟩ = some (.int .i64 rv) ∧ w'.cell? ⟨g, 1, none⟩ = some (.int .i64 re) ∧ w'.cell? ⟨g, 2, none⟩ = some (.slice ra rn rc) ∧ w'.cell? ⟨g, 3, none⟩ = some (.int .i64 t1) ∧ w'.cell? ⟨g, 4, none⟩ = some (.int .i64 t2) ∧ w'.cell? ⟨g, 5, none⟩ = some (.int .i64 t3) ∧ w'.cell? ⟨g, 6, none⟩ = some (.int .i64 s1) ∧ w'.cell? ⟨g, 7, none⟩ = some (.int .i64 s2) ∧ w'.cell? ⟨g, 8, none⟩ = some (.int .i64 s3) ∧ w'.cell? ⟨g, 9, none⟩ = some (.int .i64 gv) ∧ w'.cell? ⟨g, 10, none⟩ = some (.int .i64 ge) ∧ w'.cell? ⟨g, 11, none⟩ = some (.slice ga gn gc) ∧ w'.cell? ⟨g, 12, none⟩ = some (.int .i64 hs) ∧ w'.cell? ⟨g, 13, none⟩ = some (.string hr) ∧ w'.cell? ⟨g, 14, none⟩ = some (.int .i64 ht) ∧ Hid (KpTr w g ⟨rv, re, rn, t1, t2, t3, s1, s2, s3, gv, ge, gn, hs, hr, ht⟩ ra rc rs ga gc gs w') := by
  obtain ⟨p0, p1, p2, p3, p4, p5, p6, p7, p8, p9, p10, p11, p12, p13, p14⟩ := RowV.tr h.out.row
  exact ⟨p0, p1, p2, p3, p4, p5, p6, p7, p8, p9, p10, p11, p12, p13, p14, h⟩
/- What an argument that is a trust brings. -/
structure TrW (u : TruU) (rs : List RoleV) (gs : List TarV) : Prop where
  rn : rs.length = u.rn
  rm : u.rn ≤ maxLen
  rw : ∀ r ∈ rs, RoleW r
  gn : gs.length = u.gn
  gm : u.gn ≤ maxLen
  gw : ∀ x ∈ gs, x.w
  hr : u.hr.size ≤ maxLen
def TrS (u : TruU) (rs : List RoleV) : Prop := (u.rn ≤ 1048576 ∧ ∀ r ∈ rs, r.ks.length ≤ 1048576) ∧ u.gn ≤ 1048576
theorem Tryd.undHd : ∃ d, Tryd.prog.underlying 64 = some d ∧ d.isRow = true := ⟨_, Tryd.underlying64, rfl⟩
theorem Tryd.sizeHd : (Tryd.prog.info? 64).map (·.size) = some 3 := by kernel_rfl
theorem Tryd.sizeLki : (Tryd.prog.info? 60).map (·.size) = some 3 := by kernel_rfl
theorem Tryd.undTr : ∃ d, Tryd.prog.underlying 66 = some d ∧ d.isRow = true := ⟨_, Tryd.underlying66, rfl⟩
theorem Tryd.sizeTr : (Tryd.prog.info? 66).map (·.size) = some 15 := by kernel_rfl
theorem Tryd.infoTrz : (Tryd.prog.info? 66).map (fun i => i.zero) = some (some (.agg (trv 0 0 none 0 0 0 0 0 0 0 0 0 0 none 0 0 0 ⟨#[]⟩ 0).toArray)) := by kernel_rfl
theorem trv_one (rv re : Int) (ra : Option Addr) (rn rc : Nat) (t1 t2 t3 s1 s2 s3 gv ge : Int) (ga : Option Addr) (gn gc : Nat) (hs : Int) (hr : ByteArray) (ht : Int) : ∀ v ∈ trv rv re ra rn rc t1 t2 t3 s1 s2 s3 gv ge ga gn gc hs hr ht, v.oneCell' = true := by
  intro v hv
  simp only [trv, List.mem_cons, List.not_mem_nil, or_false] at hv
  rcases hv with h | h | h | h | h | h | h | h | h | h | h | h | h | h | h <;> (rw [h]; rfl)
theorem lkv_one (v e x : Int) : ∀ y ∈ lkv v e x, y.oneCell' = true := by
  intro v hv
  simp [lkv] at hv
  rcases hv with h | h | h <;> (rw [h]; rfl)
theorem hdv_one (v : Int) (e : ByteArray) (x : Int) : ∀ y ∈ hdv v e x, y.oneCell' = true := by
  intro v hv
  simp [hdv] at hv
  rcases hv with h | h | h <;> (rw [h]; rfl)
set_option maxRecDepth 100000 in
set_option maxHeartbeats 2000000 in
theorem szTr_any (rv re : Int) (rn : Nat) (t1 t2 t3 s1 s2 s3 gv ge : Int) (gn : Nat) (hs : Int) (hr : ByteArray) (ht : Int) (ra : Option Addr) (rc : Nat) (rs : List RoleV) (ga : Option Addr) (gc : Nat) (gs : List TarV) (q0 : Int) (w : World) (hW : TrW ⟨rv, re, rn, t1, t2, t3, s1, s2, s3, gv, ge, gn, hs, hr, ht⟩ rs gs) (h1 : RlsAt w ra rs) (h2 : TgsAt w ga gs) (g0 : 0 ≤ q0) (g1 : q0 ≤ 1048576) :
    Calls Tryd.prog 26 #[.agg #[.int .i64 rv, .int .i64 re, .slice ra rn rc, .int .i64 t1, .int .i64 t2, .int .i64 t3, .int .i64 s1, .int .i64 s2, .int .i64 s3, .int .i64 gv, .int .i64 ge, .slice ga gn gc, .int .i64 hs, .string hr, .int .i64 ht], .int .i64 q0] w fun e w' => (∃ z : Int, e = .returned (.int .i64 z) ∧ z ≤ 1048576 ∧ (0 ≤ z → TrS ⟨rv, re, rn, t1, t2, t3, s1, s2, s3, gv, ge, gn, hs, hr, ht⟩ rs)) ∧ Below w.heap.size w w' := by
  have HA1 : Hid (RlsAt w ra rs) := h1
  have HA2 : Hid (TgsAt w ga gs) := h2
  have HR : Hid (∀ w0, RlsAt w0 ra rs → Calls Tryd.prog 64 #[.agg #[.int .i64 rv, .int .i64 re, .slice ra rn rc], .int .i64 q0] w0 fun e w' => (∃ z : Int, e = .returned (.int .i64 z) ∧ z ≤ 1048576 ∧ (0 ≤ z → rn ≤ 1048576 ∧ ∀ r ∈ rs, r.ks.length ≤ 1048576)) ∧ Below w0.heap.size w0 w') := fun w0 h0 => szRt_q rv re ra rc rn rs w0 hW.rn h0 hW.rm hW.rw q0 g0 g1
  have HG : Hid (∀ w0 (q : Int), TgsAt w0 ga gs → 0 ≤ q → q ≤ 1048576 → Calls Tryd.prog 65 #[.agg #[.int .i64 gv, .int .i64 ge, .slice ga gn gc], .int .i64 q] w0 fun e w' => (∃ z : Int, e = .returned (.int .i64 z) ∧ z ≤ 1048576 ∧ (0 ≤ z → gn ≤ 1048576)) ∧ Below w0.heap.size w0 w') := fun w0 q h0 k0 k1 => szTs_q gv ge ga gc gn gs w0 hW.gn h0 hW.gm hW.gw q k0 k1
  have HH : Hid (∀ w0 (q : Int), 0 ≤ q → q ≤ 1048576 → Calls Tryd.prog 66 #[.agg #[.int .i64 hs, .string hr, .int .i64 ht], .int .i64 q] w0 fun e w' => (∃ z : Int, e = .returned (.int .i64 z) ∧ z ≤ 1048576 ∧ -1 ≤ z) ∧ Below w0.heap.size w0 w') := fun w0 q k0 k1 => szHd_any hs hr ht q w0 hW.hr k0 k1
  have HT : Hid ((rn ≤ 1048576 ∧ ∀ r ∈ rs, r.ks.length ≤ 1048576) → gn ≤ 1048576 → TrS ⟨rv, re, rn, t1, t2, t3, s1, s2, s3, gv, ge, gn, hs, hr, ht⟩ rs) := fun x y => ⟨x, y⟩
  clear h1 h2 hW
  go_enter Tryd.func26, Tryd.ntmps26
  go_wp2_with (first
    | (with_reducible refine wpList_boxV (w := w) (by with_unfolding_all rfl) 54 (.tmp 0) (by with_unfolding_all rfl) (trv rv re ra rn rc t1 t2 t3 s1 s2 s3 gv ge ga gn gc hs hr ht) (by with_unfolding_all rfl) ?_; intro w1 hA1 hB1 hS1; clear hS1; have HS1 := KpTr.start (u := ⟨rv, re, rn, t1, t2, t3, s1, s2, s3, gv, ge, gn, hs, hr, ht⟩) HA1.out HA2.out hB1 hA1; obtain ⟨p0, p1, p2, p3, p4, p5, p6, p7, p8, p9, p10, p11, p12, p13, p14, _⟩ := KpTr.all HS1))
  refine (HR.out w1 HS1.out.rl).mono ?_
  rintro e w2 ⟨⟨z, rfl, z1, hz⟩, hB2⟩
  have HZ : Hid (0 ≤ z → rn ≤ 1048576 ∧ ∀ r ∈ rs, r.ks.length ≤ 1048576) := hz
  have HS2 := KpTr.call HS1 hB2
  obtain ⟨q0, q1, q2, q3, q4, q5, q6, q7, q8, q9, q10, q11, q12, q13, q14, _⟩ := KpTr.all HS2
  clear p0 p1 p2 p3 p4 p5 p6 p7 p8 p9 p10 p11 p12 p13 p14 HS1 hA1 hB1 hB2 HR hz
  by_cases c1 : z < 0
  · go_wp2
    go_ret
    exact ⟨⟨_, rfl, by omega, fun h => absurd h (by omega)⟩, HS2.out.below⟩
  have HZ2 : Hid (rn ≤ 1048576 ∧ ∀ r ∈ rs, r.ks.length ≤ 1048576) := HZ.out (by omega)
  clear HZ
  go_wp2_with fail
  refine (HG.out w2 z HS2.out.tg (by omega) z1).mono ?_
  rintro e w3 ⟨⟨y, rfl, y1, hy⟩, hB3⟩
  have HY : Hid (0 ≤ y → gn ≤ 1048576) := hy
  have HS3 := KpTr.call HS2 hB3
  obtain ⟨p0, p1, p2, p3, p4, p5, p6, p7, p8, p9, p10, p11, p12, p13, p14, _⟩ := KpTr.all HS3
  clear q0 q1 q2 q3 q4 q5 q6 q7 q8 q9 q10 q11 q12 q13 q14 HS2 hB3 HG hy
  by_cases c2 : y < 0
  · go_wp2
    go_ret
    exact ⟨⟨_, rfl, by omega, fun h => absurd h (by omega)⟩, HS3.out.below⟩
  have HTT : Hid (TrS ⟨rv, re, rn, t1, t2, t3, s1, s2, s3, gv, ge, gn, hs, hr, ht⟩ rs) := HT.out HZ2.out (HY.out (by omega))
  clear HY HT
  go_wp2_with fail
  refine (HH.out w3 y (by omega) y1).mono ?_
  rintro e w4 ⟨⟨x, rfl, x1, x2⟩, hB4⟩
  have HS4 := KpTr.call HS3 hB4
  clear p0 p1 p2 p3 p4 p5 p6 p7 p8 p9 p10 p11 p12 p13 p14 HS3 hB4 HH
  by_cases c3 : x < 0
  · go_wp2
    go_ret
    exact ⟨⟨_, rfl, by omega, fun h => absurd h (by omega)⟩, HS4.out.below⟩
  go_wp2
  go_ret
  exact ⟨⟨_, rfl, x1, fun _ => HTT.out⟩, HS4.out.below⟩
structure KpTo (w : World) (g1 g2 g3 : Nat) (u : TruU) (ra : Option Addr) (rc : Nat) (rs : List RoleV) (ga : Option Addr) (gc : Nat) (gs : List TarV) (L2 L3 : List Value) (w' : World) : Prop where
  kp : KpTr w g1 u ra rc rs ga gc gs w'
  r2 : RowV w' g2 L2
  r3 : RowV w' g3 L3
  lt : w.heap.size ≤ g1 ∧ g1 < g2 ∧ g2 < g3 ∧ g3 < w'.heap.size
theorem KpTo.call {w w' w2 : World} {g1 g2 g3 : Nat} {u : TruU} {ra ga : Option Addr} {rc gc : Nat} {rs : List RoleV} {gs : List TarV} {L2 L3 : List Value} (h : Hid (KpTo w g1 g2 g3 u ra rc rs ga gc gs L2 L3 w')) (hb : Below w'.heap.size w' w2) : Hid (KpTo w g1 g2 g3 u ra rc rs ga gc gs L2 L3 w2) := by
  obtain ⟨a, b, c, d⟩ := h.out.lt
  have := hb.size
  exact ⟨(KpTr.call (hidP h.out.kp) hb).out, h.out.r2.below hb (by omega), h.out.r3.below hb d, a, b, c, by omega⟩
theorem KpTo.set {w w' w2 : World} {g1 g2 g3 : Nat} {u : TruU} {ra ga : Option Addr} {rc gc : Nat} {rs : List RoleV} {gs : List TarV} {L2 L3 L' : List Value} (h : Hid (KpTo w g1 g2 g3 u ra rc rs ga gc gs L2 L3 w')) (h0 : Hid (RlsAt w ra rs ∧ TgsAt w ga gs)) (hr : RowV w2 g3 L') (hb : ∀ B, B ≤ g3 → Below B w' w2) (hs : w2.heap.size = w'.heap.size) : Hid (KpTo w g1 g2 g3 u ra rc rs ga gc gs L2 L' w2) := by
  obtain ⟨a, b, c, d⟩ := h.out.lt
  have bw : Below w.heap.size w w2 := h.out.kp.below.trans (hb _ (by omega))
  exact ⟨⟨bw, h.out.kp.row.below (hb _ (Nat.le_refl _)) (by omega), h0.out.1.below bw, TgsAt.below h0.out.2 bw⟩, h.out.r2.below (hb _ (Nat.le_refl _)) c, hr, a, b, c, by omega⟩
theorem KpTo.all {w w' : World} {g1 g2 g3 : Nat} {rv re : Int} {rn : Nat} {t1 t2 t3 s1 s2 s3 gv ge : Int} {gn : Nat} {hs : Int} {hr : ByteArray} {ht : Int} {ra ga : Option Addr} {rc gc : Nat} {rs : List RoleV} {gs : List TarV} {L2 L3 : List Value} (h : Hid (KpTo w g1 g2 g3 ⟨rv, re, rn, t1, t2, t3, s1, s2, s3, gv, ge, gn, hs, hr, ht⟩ ra rc rs ga gc gs L2 L3 w')) : w'.cell? ⟨g1, 0, none⟩ = some (.int .i64 rv) ∧ w'.cell? ⟨g1, 1, none⟩ = some (.int .i64 re) ∧ w'.cell? ⟨g1, 2, none⟩ = some (.slice ra rn rc) ∧ w'.cell? ⟨g1, 3, none⟩ = some (.int .i64 t1) ∧ w'.cell? ⟨g1, 4, none⟩ = some (.int .i64 t2) ∧ w'.cell? ⟨g1, 5, none⟩ = some (.int .i64 t3) ∧ w'.cell? ⟨g1, 6, none⟩ = some (.int .i64 s1) ∧ w'.cell? ⟨g1, 7, none⟩ = some (.int .i64 s2) ∧ w'.cell? ⟨g1, 8, none⟩ = some (.int .i64 s3) ∧ w'.cell? ⟨g1, 9, none⟩ = some (.int .i64 gv) ∧ w'.cell? ⟨g1, 10, none⟩ = some (.int .i64 ge) ∧ w'.cell? ⟨g1, 11, none⟩ = some (.slice ga gn gc) ∧ w'.cell? ⟨g1, 12, none⟩ = some (.int .i64 hs) ∧ w'.cell? ⟨g1, 13, none⟩ = some (.string hr) ∧ w'.cell? ⟨g1, 14, none⟩ = some (.int .i64 ht) ∧ Hid (KpTo w g1 g2 g3 ⟨rv, re, rn, t1, t2, t3, s1, s2, s3, gv, ge, gn, hs, hr, ht⟩ ra rc rs ga gc gs L2 L3 w') := by
  obtain ⟨p0, p1, p2, p3, p4, p5, p6, p7, p8, p9, p10, p11, p12, p13, p14, _⟩ := KpTr.all (hidP h.out.kp)
  exact ⟨p0, p1, p2, p3, p4, p5, p6, p7, p8, p9, p10, p11, p12, p13, p14, h⟩
theorem KpTo.mk0 {w w1 w2 w3 : World} {u : TruU} {ra ga : Option Addr} {rc gc : Nat} {rs : List RoleV} {gs : List TarV} {L2 L3 : List Value} (h0 : Hid (RlsAt w ra rs ∧ TgsAt w ga gs)) (hA1 : RowV w1 w.heap.size (u.row ra rc ga gc)) (hB1 : Below w.heap.size w w1) (z1 : w.heap.size < w1.heap.size) (hA2 : RowV w2 w1.heap.size L2) (hB2 : Below w1.heap.size w1 w2) (z2 : w1.heap.size < w2.heap.size) (hA3 : RowV w3 w2.heap.size L3) (hB3 : Below w2.heap.size w2 w3) (z3 : w2.heap.size < w3.heap.size) : Hid (KpTo w w.heap.size w1.heap.size w2.heap.size u ra rc rs ga gc gs L2 L3 w3) := by
  have b : Below w.heap.size w w3 := (hB1.trans (hB2.mono (by omega))).trans (hB3.mono (by omega))
  exact ⟨⟨b, (hA1.below hB2 z1).below hB3 (by omega), h0.out.1.below b, TgsAt.below h0.out.2 b⟩, hA2.below hB3 z2, hA3, Nat.le_refl _, z1, z2, z3⟩
theorem rls_far {rs : List RoleV} {g B : Nat} (h : Hid (∀ r ∈ rs, ∃ b, r.ka = some ⟨b, 0, none⟩ ∧ B < b)) (hg : g ≤ B) : ∀ r ∈ rs, ∃ x, r.ka = some ⟨x, 0, none⟩ ∧ x ≠ g := fun r hr => by
  obtain ⟨b, h1, h2⟩ := h.out r hr
  exact ⟨b, h1, by omega⟩
set_option maxRecDepth 100000 in
set_option maxHeartbeats 4000000 in
theorem toTr_any (rv re : Int) (rn : Nat) (t1 t2 t3 s1 s2 s3 gv ge : Int) (gn : Nat) (hs : Int) (hr : ByteArray) (ht : Int) (ra : Option Addr) (rc : Nat) (rs : List RoleV) (ga : Option Addr) (gc : Nat) (gs : List TarV) (w : World) (hW : TrW ⟨rv, re, rn, t1, t2, t3, s1, s2, s3, gv, ge, gn, hs, hr, ht⟩ rs gs) (hb : TrS ⟨rv, re, rn, t1, t2, t3, s1, s2, s3, gv, ge, gn, hs, hr, ht⟩ rs) (h1 : RlsAt w ra rs) (h2 : TgsAt w ga gs) :
    Calls Tryd.prog 28 #[.agg #[.int .i64 rv, .int .i64 re, .slice ra rn rc, .int .i64 t1, .int .i64 t2, .int .i64 t3, .int .i64 s1, .int .i64 s2, .int .i64 s3, .int .i64 gv, .int .i64 ge, .slice ga gn gc, .int .i64 hs, .string hr, .int .i64 ht]] w fun e w' => ∃ g1 r1 g2, e = .returned (.agg #[.int .i64 rv, .int .i64 re, .slice (some ⟨g1, 0, none⟩) rn rn, .int .i64 t1, .int .i64 t2, .int .i64 t3, .int .i64 s1, .int .i64 s2, .int .i64 s3, .int .i64 gv, .int .i64 ge, .slice (some ⟨g2, 0, none⟩) gn gn, .int .i64 hs, .string hr, .int .i64 ht]) ∧ rkeys r1 = rkeys rs ∧ RlsAt w' (some ⟨g1, 0, none⟩) r1 ∧ TgsAt w' (some ⟨g2, 0, none⟩) gs ∧ Below w.heap.size w w' := by
  have HA : Hid (RlsAt w ra rs ∧ TgsAt w ga gs) := ⟨h1, h2⟩
  have hR : ∀ w0, RlsAt w0 ra rs → Calls Tryd.prog 71 #[.agg #[.int .i64 rv, .int .i64 re, .slice ra rn rc]] w0 fun e w' => ∃ g rs', e = .returned (.agg #[.int .i64 rv, .int .i64 re, .slice (some ⟨g, 0, none⟩) rn rn]) ∧ rkeys rs' = rkeys rs ∧ RlsAt w' (some ⟨g, 0, none⟩) rs' ∧ w0.heap.size < g ∧ (∀ r ∈ rs', ∃ b, r.ka = some ⟨b, 0, none⟩ ∧ w0.heap.size < b) ∧ Below w0.heap.size w0 w' := fun w0 h0 => toRt_at rv re ra rc rn rs w0 hW.rn h0 hb.1.1 hb.1.2
  have hG : ∀ w0, TgsAt w0 ga gs → Calls Tryd.prog 73 #[.agg #[.int .i64 gv, .int .i64 ge, .slice ga gn gc]] w0 fun e w' => ∃ g, e = .returned (.agg #[.int .i64 gv, .int .i64 ge, .slice (some ⟨g, 0, none⟩) gn gn]) ∧ TgsAt w' (some ⟨g, 0, none⟩) gs ∧ w0.heap.size < g ∧ Below w0.heap.size w0 w' := fun w0 h0 => toTs_at gv ge ga gc gn gs w0 hW.gn h0 hb.2
  have hH : ∀ w0, Calls Tryd.prog 74 #[.agg #[.int .i64 hs, .string hr, .int .i64 ht]] w0 fun e w' => e = .returned (.agg #[.int .i64 hs, .string hr, .int .i64 ht]) ∧ Below w0.heap.size w0 w' := fun w0 => toHd_any hs hr ht w0
  have hL1 : ∀ w0, Calls Tryd.prog 72 #[.agg #[.int .i64 t1, .int .i64 t2, .int .i64 t3]] w0 fun e w' => e = .returned (.agg #[.int .i64 t1, .int .i64 t2, .int .i64 t3]) ∧ Below w0.heap.size w0 w' := fun w0 => toLk_any t1 t2 t3 w0
  have hL2 : ∀ w0, Calls Tryd.prog 72 #[.agg #[.int .i64 s1, .int .i64 s2, .int .i64 s3]] w0 fun e w' => e = .returned (.agg #[.int .i64 s1, .int .i64 s2, .int .i64 s3]) ∧ Below w0.heap.size w0 w' := fun w0 => toLk_any s1 s2 s3 w0
  clear h1 h2 hW hb
  go_enter Tryd.func28, Tryd.ntmps28
  go_wp2_with (first
    | (with_reducible refine wpList_boxV (w := w) (by with_unfolding_all rfl) 54 (.tmp 0) (by with_unfolding_all rfl) (trv rv re ra rn rc t1 t2 t3 s1 s2 s3 gv ge ga gn gc hs hr ht) (by with_unfolding_all rfl) ?_; intro w1 hA1 hB1 hS1; have z1 : w.heap.size < w1.heap.size := (by omega); clear hS1)
    | (with_reducible refine wpList_allocV (w := w1) (by with_unfolding_all rfl) 66 (by with_unfolding_all rfl) (trv 0 0 none 0 0 0 0 0 0 0 0 0 0 none 0 0 0 ⟨#[]⟩ 0) Tryd.infoTrz ?_; intro w2 hA2 hB2 hS2; have z2 : w1.heap.size < w2.heap.size := (by omega); clear hS2)
    | (with_reducible refine wpList_allocV (w := w2) (by with_unfolding_all rfl) 66 (by with_unfolding_all rfl) (trv 0 0 none 0 0 0 0 0 0 0 0 0 0 none 0 0 0 ⟨#[]⟩ 0) Tryd.infoTrz ?_; intro w3 hA3 hB3 hS3; have z3 : w2.heap.size < w3.heap.size := (by omega); clear hS3; have HS3 := KpTo.mk0 (u := ⟨rv, re, rn, t1, t2, t3, s1, s2, s3, gv, ge, gn, hs, hr, ht⟩) HA hA1 hB1 z1 hA2 hB2 z2 hA3 hB3 z3; obtain ⟨p0, p1, p2, p3, p4, p5, p6, p7, p8, p9, p10, p11, p12, p13, p14, _⟩ := KpTo.all HS3; clear hA1 hB1 hA2 hB2 hA3 hB3)
    | (go_at_call 71; with_reducible refine (hR w3 HS3.out.kp.rl).mono ?_; rintro e w4 ⟨g4, r4, rfl, hk4, hI4, hg4, hJ4, hB4⟩; have HS4 := KpTo.call HS3 hB4; have HJ4 : Hid (∀ r ∈ r4, ∃ b, r.ka = some ⟨b, 0, none⟩ ∧ w3.heap.size < b) := hidP hJ4; have HK4 : Hid (rkeys r4 = rkeys rs) := hidP hk4; clear hJ4 hk4)
    | (with_reducible refine wpList_subV (w := w4) (by with_unfolding_all rfl) 59 (.tmp 7) (.tmp 6) (by with_unfolding_all rfl) w2.heap.size 0 3 (trv 0 0 none 0 0 0 0 0 0 0 0 0 0 none 0 0 0 ⟨#[]⟩ 0) (rtv rv re (some ⟨g4, 0, none⟩) rn rn) (trv rv re (some ⟨g4, 0, none⟩) rn rn 0 0 0 0 0 0 0 0 none 0 0 0 ⟨#[]⟩ 0) (by with_unfolding_all rfl) (by with_unfolding_all rfl) Tryd.sizeRt (by with_unfolding_all rfl) (rtv_one _ _ _ _ _) HS4.out.r3 (by simp [trv]) (by with_unfolding_all rfl) ?_; intro w5 hA5 hB5 hF5 hS5; have HS5 := KpTo.set HS4 HA hA5 hB5 hS5; have R5 := RlsAt.other hI4 (rls_far HJ4 (by omega)) hF5 (by omega); obtain ⟨q0, q1, q2, q3, q4, q5, q6, q7, q8, q9, q10, q11, q12, q13, q14, _⟩ := KpTo.all HS5; clear p0 p1 p2 p3 p4 p5 p6 p7 p8 p9 p10 p11 p12 p13 p14 hA5 hB5 hF5 hS5 HS4 HS3 hI4 hB4)
    | (go_at_call 72; with_reducible refine (hL1 w5).mono ?_; rintro e w6 ⟨rfl, hB6⟩; have HS6 := KpTo.call HS5 hB6; have R6 := R5.below hB6)
    | (with_reducible refine wpList_subV (w := w6) (by with_unfolding_all rfl) 60 (.tmp 11) (.tmp 10) (by with_unfolding_all rfl) w2.heap.size 3 3 (trv rv re (some ⟨g4, 0, none⟩) rn rn 0 0 0 0 0 0 0 0 none 0 0 0 ⟨#[]⟩ 0) (lkv t1 t2 t3) (trv rv re (some ⟨g4, 0, none⟩) rn rn t1 t2 t3 0 0 0 0 0 none 0 0 0 ⟨#[]⟩ 0) (by with_unfolding_all rfl) (by with_unfolding_all rfl) Tryd.sizeLki (by with_unfolding_all rfl) (lkv_one _ _ _) HS6.out.r3 (by simp [trv]) (by with_unfolding_all rfl) ?_; intro w7 hA7 hB7 hF7 hS7; have HS7 := KpTo.set HS6 HA hA7 hB7 hS7; have R7 := RlsAt.other R6 (rls_far HJ4 (by omega)) hF7 (by omega); obtain ⟨p0, p1, p2, p3, p4, p5, p6, p7, p8, p9, p10, p11, p12, p13, p14, _⟩ := KpTo.all HS7; clear q0 q1 q2 q3 q4 q5 q6 q7 q8 q9 q10 q11 q12 q13 q14 hA7 hB7 hF7 hS7 HS6 HS5 R5 R6 hB6)
    | (go_at_call 72; with_reducible refine (hL2 w7).mono ?_; rintro e w8 ⟨rfl, hB8⟩; have HS8 := KpTo.call HS7 hB8; have R8 := R7.below hB8)
    | (with_reducible refine wpList_subV (w := w8) (by with_unfolding_all rfl) 60 (.tmp 15) (.tmp 14) (by with_unfolding_all rfl) w2.heap.size 6 3 (trv rv re (some ⟨g4, 0, none⟩) rn rn t1 t2 t3 0 0 0 0 0 none 0 0 0 ⟨#[]⟩ 0) (lkv s1 s2 s3) (trv rv re (some ⟨g4, 0, none⟩) rn rn t1 t2 t3 s1 s2 s3 0 0 none 0 0 0 ⟨#[]⟩ 0) (by with_unfolding_all rfl) (by with_unfolding_all rfl) Tryd.sizeLki (by with_unfolding_all rfl) (lkv_one _ _ _) HS8.out.r3 (by simp [trv]) (by with_unfolding_all rfl) ?_; intro w9 hA9 hB9 hF9 hS9; have HS9 := KpTo.set HS8 HA hA9 hB9 hS9; have R9 := RlsAt.other R8 (rls_far HJ4 (by omega)) hF9 (by omega); obtain ⟨q0, q1, q2, q3, q4, q5, q6, q7, q8, q9, q10, q11, q12, q13, q14, _⟩ := KpTo.all HS9; clear p0 p1 p2 p3 p4 p5 p6 p7 p8 p9 p10 p11 p12 p13 p14 hA9 hB9 hF9 hS9 HS8 HS7 R7 R8 hB8)
    | (go_at_call 73; with_reducible refine (hG w9 HS9.out.kp.tg).mono ?_; rintro e w10 ⟨g7, rfl, hI10, hg7, hB10⟩; have HS10 := KpTo.call HS9 hB10; have R10 := R9.below hB10; have y7 : w2.heap.size < g7 := (by have := HS9.out.lt.2.2.2; omega))
    | (with_reducible refine wpList_subV (w := w10) (by with_unfolding_all rfl) 63 (.tmp 19) (.tmp 18) (by with_unfolding_all rfl) w2.heap.size 9 3 (trv rv re (some ⟨g4, 0, none⟩) rn rn t1 t2 t3 s1 s2 s3 0 0 none 0 0 0 ⟨#[]⟩ 0) (rtv gv ge (some ⟨g7, 0, none⟩) gn gn) (trv rv re (some ⟨g4, 0, none⟩) rn rn t1 t2 t3 s1 s2 s3 gv ge (some ⟨g7, 0, none⟩) gn gn 0 ⟨#[]⟩ 0) (by with_unfolding_all rfl) (by with_unfolding_all rfl) Tryd.sizeTs (by with_unfolding_all rfl) (rtv_one _ _ _ _ _) HS10.out.r3 (by simp [trv]) (by with_unfolding_all rfl) ?_; intro w11 hA11 hB11 hF11 hS11; have HS11 := KpTo.set HS10 HA hA11 hB11 hS11; have R11 := RlsAt.other R10 (rls_far HJ4 (by omega)) hF11 (by omega); have I11 := TgsAt.far hI10 hF11 (by omega); obtain ⟨p0, p1, p2, p3, p4, p5, p6, p7, p8, p9, p10, p11, p12, p13, p14, _⟩ := KpTo.all HS11; clear q0 q1 q2 q3 q4 q5 q6 q7 q8 q9 q10 q11 q12 q13 q14 hA11 hB11 hF11 hS11 HS10 HS9 R9 R10 hB10 hI10)
    | (go_at_call 74; with_reducible refine (hH w11).mono ?_; rintro e w12 ⟨rfl, hB12⟩; have HS12 := KpTo.call HS11 hB12; have R12 := R11.below hB12; have I12 := TgsAt.below I11 hB12)
    | (with_reducible refine wpList_subV (w := w12) (by with_unfolding_all rfl) 64 (.tmp 23) (.tmp 22) (by with_unfolding_all rfl) w2.heap.size 12 3 (trv rv re (some ⟨g4, 0, none⟩) rn rn t1 t2 t3 s1 s2 s3 gv ge (some ⟨g7, 0, none⟩) gn gn 0 ⟨#[]⟩ 0) (hdv hs hr ht) (trv rv re (some ⟨g4, 0, none⟩) rn rn t1 t2 t3 s1 s2 s3 gv ge (some ⟨g7, 0, none⟩) gn gn hs hr ht) (by with_unfolding_all rfl) (by with_unfolding_all rfl) Tryd.sizeHd (by with_unfolding_all rfl) (hdv_one _ _ _) HS12.out.r3 (by simp [trv]) (by with_unfolding_all rfl) ?_; intro w13 hA13 hB13 hF13 hS13; have HS13 := KpTo.set HS12 HA hA13 hB13 hS13; have R13 := RlsAt.other R12 (rls_far HJ4 (by omega)) hF13 (by omega); have I13 := TgsAt.far I12 hF13 (by omega); clear p0 p1 p2 p3 p4 p5 p6 p7 p8 p9 p10 p11 p12 p13 p14 hA13 hB13 hF13 hS13 HS12 HS11 R11 R12 hB12 I11 I12)
    | (with_reducible refine wpList_loadV (w := w13) (by with_unfolding_all rfl) 66 (.tmp 3) (by with_unfolding_all rfl) w2.heap.size (trv rv re (some ⟨g4, 0, none⟩) rn rn t1 t2 t3 s1 s2 s3 gv ge (some ⟨g7, 0, none⟩) gn gn hs hr ht) (by with_unfolding_all rfl) HS13.out.r3 Tryd.undTr 15 Tryd.sizeTr (by with_unfolding_all rfl) ?_)
    | (with_reducible refine wpList_storeV (w := w13) (by with_unfolding_all rfl) 66 (.tmp 2) (.tmp 24) (by with_unfolding_all rfl) w1.heap.size (trv 0 0 none 0 0 0 0 0 0 0 0 0 0 none 0 0 0 ⟨#[]⟩ 0) (trv rv re (some ⟨g4, 0, none⟩) rn rn t1 t2 t3 s1 s2 s3 gv ge (some ⟨g7, 0, none⟩) gn gn hs hr ht) (by with_unfolding_all rfl) (by with_unfolding_all rfl) HS13.out.r2 15 Tryd.sizeTr (by with_unfolding_all rfl) (by with_unfolding_all rfl) (trv_one _ _ _ _ _ _ _ _ _ _ _ _ _ _ _ _ _ _ _) ?_; intro w14 hA14 hB14 hF14 hS14; have R14 := RlsAt.other R13 (rls_far HJ4 (by omega)) hF14 (by omega); have I14 := TgsAt.far I13 hF14 (by omega); have b14 : Below w.heap.size w w14 := HS13.out.kp.below.trans (hB14 _ (by omega))))
  exact bodyPost_ret (results_V (t := 66) rfl _ w1.heap.size _ rfl hA14 Tryd.undTr 15 Tryd.sizeTr rfl) rfl ⟨g4, r4, g7, rfl, HK4.out, R14, I14, b14⟩
theorem eqLk_any (x y z : Int) (w : World) :
    Calls Tryd.prog 81 #[.agg #[.int .i64 x, .int .i64 y, .int .i64 z], .agg #[.int .i64 x, .int .i64 y, .int .i64 z]] w fun r w' => r = .returned (.bool true) ∧ Below w.heap.size w w' := by
  have e1 : (x == x) = true := by simp
  have e2 : (y == y) = true := by simp
  have e3 : (z == z) = true := by simp
  go_enter Tryd.func81, Tryd.ntmps81
  go_wp2_with (first
    | (with_reducible refine wpList_boxV (w := w) (by with_unfolding_all rfl) 60 (.tmp 0) (by with_unfolding_all rfl) (lkv x y z) (by with_unfolding_all rfl) ?_; intro w1 hA1 hB1 hS1; have z1 : w.heap.size < w1.heap.size := (by omega); clear hS1)
    | (with_reducible refine wpList_boxV (w := w1) (by with_unfolding_all rfl) 60 (.tmp 1) (by with_unfolding_all rfl) (lkv x y z) (by with_unfolding_all rfl) ?_; intro w2 hA2 hB2 hS2; clear hS2; obtain ⟨p0, p1, p2⟩ := (hA1.below hB2 z1).lk; obtain ⟨q0, q1, q2⟩ := hA2.lk))
  go_ret
  exact ⟨rfl, hB1.trans (hB2.mono (by omega))⟩
structure KpT2 (w : World) (g1 g2 : Nat) (u : TruU) (a1 b1 : Option Addr) (c1 d1 : Nat) (r1 : List RoleV) (a2 b2 : Option Addr) (c2 d2 : Nat) (r2 : List RoleV) (gs : List TarV) (w' : World) : Prop where
  k1 : KpTr w g1 u a1 c1 r1 b1 d1 gs w'
  k2 : KpTr w g2 u a2 c2 r2 b2 d2 gs w'
theorem KpT2.mk0 {w w1 w2 : World} {u : TruU} {a1 b1 a2 b2 : Option Addr} {c1 d1 c2 d2 : Nat} {r1 r2 : List RoleV} {gs : List TarV} (h1 : Hid (RlsAt w a1 r1 ∧ TgsAt w b1 gs)) (h2 : Hid (RlsAt w a2 r2 ∧ TgsAt w b2 gs)) (hA1 : RowV w1 w.heap.size (u.row a1 c1 b1 d1)) (hB1 : Below w.heap.size w w1) (hA2 : RowV w2 w1.heap.size (u.row a2 c2 b2 d2)) (hB2 : Below w1.heap.size w1 w2) (hS1 : w.heap.size < w1.heap.size) : Hid (KpT2 w w.heap.size w1.heap.size u a1 b1 c1 d1 r1 a2 b2 c2 d2 r2 gs w2) := by
  have b : Below w.heap.size w w2 := hB1.trans (hB2.mono (by omega))
  exact ⟨⟨b, hA1.below hB2 (by omega), h1.out.1.below b, TgsAt.below h1.out.2 b⟩, ⟨b, hA2, h2.out.1.below b, TgsAt.below h2.out.2 b⟩⟩
theorem KpT2.call {w w' w2 : World} {g1 g2 : Nat} {u : TruU} {a1 b1 a2 b2 : Option Addr} {c1 d1 c2 d2 : Nat} {r1 r2 : List RoleV} {gs : List TarV} (h : Hid (KpT2 w g1 g2 u a1 b1 c1 d1 r1 a2 b2 c2 d2 r2 gs w')) (hb : Below w'.heap.size w' w2) : Hid (KpT2 w g1 g2 u a1 b1 c1 d1 r1 a2 b2 c2 d2 r2 gs w2) :=
  ⟨(KpTr.call (hidP h.out.k1) hb).out, (KpTr.call (hidP h.out.k2) hb).out⟩
theorem KpT2.all {w w' : World} {g1 g2 : Nat} {rv re : Int} {rn : Nat} {t1 t2 t3 s1 s2 s3 gv ge : Int} {gn : Nat} {hs : Int} {hr : ByteArray} {ht : Int} {a1 b1 a2 b2 : Option Addr} {c1 d1 c2 d2 : Nat} {r1 r2 : List RoleV} {gs : List TarV} (h : Hid (KpT2 w g1 g2 ⟨rv, re, rn, t1, t2, t3, s1, s2, s3, gv, ge, gn, hs, hr, ht⟩ a1 b1 c1 d1 r1 a2 b2 c2 d2 r2 gs w')) : (w'.cell? ⟨g1, 0, none⟩ = some (.int .i64 rv) ∧ w'.cell? ⟨g1, 1, none⟩ = some (.int .i64 re) ∧ w'.cell? ⟨g1, 2, none⟩ = some (.slice a1 rn c1) ∧ w'.cell? ⟨g1, 3, none⟩ = some (.int .i64 t1) ∧ w'.cell? ⟨g1, 4, none⟩ = some (.int .i64 t2) ∧ w'.cell? ⟨g1, 5, none⟩ = some (.int .i64 t3) ∧ w'.cell? ⟨g1, 6, none⟩ = some (.int .i64 s1) ∧ w'.cell? ⟨g1, 7, none⟩ = some (.int .i64 s2) ∧ w'.cell? ⟨g1, 8, none⟩ = some (.int .i64 s3) ∧ w'.cell? ⟨g1, 9, none⟩ = some (.int .i64 gv) ∧ w'.cell? ⟨g1, 10, none⟩ = some (.int .i64 ge) ∧ w'.cell? ⟨g1, 11, none⟩ = some (.slice b1 gn d1) ∧ w'.cell? ⟨g1, 12, none⟩ = some (.int .i64 hs) ∧ w'.cell? ⟨g1, 13, none⟩ = some (.string hr) ∧ w'.cell? ⟨g1, 14, none⟩ = some (.int .i64 ht)) ∧ (w'.cell? ⟨g2, 0, none⟩ = some (.int .i64 rv) ∧ w'.cell? ⟨g2, 1, none⟩ = some (.int .i64 re) ∧ w'.cell? ⟨g2, 2, none⟩ = some (.slice a2 rn c2) ∧ w'.cell? ⟨g2, 3, none⟩ = some (.int .i64 t1) ∧ w'.cell? ⟨g2, 4, none⟩ = some (.int .i64 t2) ∧ w'.cell? ⟨g2, 5, none⟩ = some (.int .i64 t3) ∧ w'.cell? ⟨g2, 6, none⟩ = some (.int .i64 s1) ∧ w'.cell? ⟨g2, 7, none⟩ = some (.int .i64 s2) ∧ w'.cell? ⟨g2, 8, none⟩ = some (.int .i64 s3) ∧ w'.cell? ⟨g2, 9, none⟩ = some (.int .i64 gv) ∧ w'.cell? ⟨g2, 10, none⟩ = some (.int .i64 ge) ∧ w'.cell? ⟨g2, 11, none⟩ = some (.slice b2 gn d2) ∧ w'.cell? ⟨g2, 12, none⟩ = some (.int .i64 hs) ∧ w'.cell? ⟨g2, 13, none⟩ = some (.string hr) ∧ w'.cell? ⟨g2, 14, none⟩ = some (.int .i64 ht)) ∧ Hid (KpT2 w g1 g2 ⟨rv, re, rn, t1, t2, t3, s1, s2, s3, gv, ge, gn, hs, hr, ht⟩ a1 b1 c1 d1 r1 a2 b2 c2 d2 r2 gs w') := by
  obtain ⟨p0, p1, p2, p3, p4, p5, p6, p7, p8, p9, p10, p11, p12, p13, p14, _⟩ := KpTr.all (hidP h.out.k1)
  obtain ⟨q0, q1, q2, q3, q4, q5, q6, q7, q8, q9, q10, q11, q12, q13, q14, _⟩ := KpTr.all (hidP h.out.k2)
  exact ⟨⟨p0, p1, p2, p3, p4, p5, p6, p7, p8, p9, p10, p11, p12, p13, p14⟩, ⟨q0, q1, q2, q3, q4, q5, q6, q7, q8, q9, q10, q11, q12, q13, q14⟩, h⟩
set_option maxRecDepth 100000 in
set_option maxHeartbeats 4000000 in
theorem eqTr_any (rv re : Int) (rn : Nat) (t1 t2 t3 s1 s2 s3 gv ge : Int) (gn : Nat) (hs : Int) (hr : ByteArray) (ht : Int) (a1 b1 a2 b2 : Option Addr) (c1 d1 c2 d2 : Nat) (r1 r2 : List RoleV) (gs : List TarV) (w : World) (hn : r1.length = rn) (hk : rkeys r1 = rkeys r2) (hm : rn ≤ maxLen) (hrw : ∀ r ∈ r1, r.ks.length ≤ maxLen) (hgn : gs.length = gn) (hgm : gn ≤ maxLen) (h1 : RlsAt w a1 r1) (h2 : TgsAt w b1 gs) (h3 : RlsAt w a2 r2) (h4 : TgsAt w b2 gs) :
    Calls Tryd.prog 30 #[.agg #[.int .i64 rv, .int .i64 re, .slice a1 rn c1, .int .i64 t1, .int .i64 t2, .int .i64 t3, .int .i64 s1, .int .i64 s2, .int .i64 s3, .int .i64 gv, .int .i64 ge, .slice b1 gn d1, .int .i64 hs, .string hr, .int .i64 ht], .agg #[.int .i64 rv, .int .i64 re, .slice a2 rn c2, .int .i64 t1, .int .i64 t2, .int .i64 t3, .int .i64 s1, .int .i64 s2, .int .i64 s3, .int .i64 gv, .int .i64 ge, .slice b2 gn d2, .int .i64 hs, .string hr, .int .i64 ht]] w fun e w' => e = .returned (.bool true) ∧ Below w.heap.size w w' := by
  have HA1 : Hid (RlsAt w a1 r1 ∧ TgsAt w b1 gs) := ⟨h1, h2⟩
  have HA2 : Hid (RlsAt w a2 r2 ∧ TgsAt w b2 gs) := ⟨h3, h4⟩
  have hR : ∀ w0 g2, Hid (KpT2 w w.heap.size g2 ⟨rv, re, rn, t1, t2, t3, s1, s2, s3, gv, ge, gn, hs, hr, ht⟩ a1 b1 c1 d1 r1 a2 b2 c2 d2 r2 gs w0) → Calls Tryd.prog 80 #[.agg #[.int .i64 rv, .int .i64 re, .slice a1 rn c1], .agg #[.int .i64 rv, .int .i64 re, .slice a2 rn c2]] w0 fun e w' => e = .returned (.bool true) ∧ Below w0.heap.size w0 w' := fun w0 g2 h0 => eqRt_any rv re a1 a2 c1 c2 rn r1 r2 w0 hn hk h0.out.k1.rl h0.out.k2.rl hm hrw
  have hG : ∀ w0 g2, Hid (KpT2 w w.heap.size g2 ⟨rv, re, rn, t1, t2, t3, s1, s2, s3, gv, ge, gn, hs, hr, ht⟩ a1 b1 c1 d1 r1 a2 b2 c2 d2 r2 gs w0) → Calls Tryd.prog 82 #[.agg #[.int .i64 gv, .int .i64 ge, .slice b1 gn d1], .agg #[.int .i64 gv, .int .i64 ge, .slice b2 gn d2]] w0 fun e w' => e = .returned (.bool true) ∧ Below w0.heap.size w0 w' := fun w0 g2 h0 => eqTs_any gv ge b1 b2 d1 d2 gn gs w0 hgn h0.out.k1.tg h0.out.k2.tg hgm
  have hH : ∀ w0, Calls Tryd.prog 83 #[.agg #[.int .i64 hs, .string hr, .int .i64 ht], .agg #[.int .i64 hs, .string hr, .int .i64 ht]] w0 fun e w' => e = .returned (.bool true) ∧ Below w0.heap.size w0 w' := fun w0 => eqHd_any hs ht hr w0
  have hL1 : ∀ w0, Calls Tryd.prog 81 #[.agg #[.int .i64 t1, .int .i64 t2, .int .i64 t3], .agg #[.int .i64 t1, .int .i64 t2, .int .i64 t3]] w0 fun e w' => e = .returned (.bool true) ∧ Below w0.heap.size w0 w' := fun w0 => eqLk_any t1 t2 t3 w0
  have hL2 : ∀ w0, Calls Tryd.prog 81 #[.agg #[.int .i64 s1, .int .i64 s2, .int .i64 s3], .agg #[.int .i64 s1, .int .i64 s2, .int .i64 s3]] w0 fun e w' => e = .returned (.bool true) ∧ Below w0.heap.size w0 w' := fun w0 => eqLk_any s1 s2 s3 w0
  clear h1 h2 h3 h4 hn hk hm hrw hgn hgm
  go_enter Tryd.func30, Tryd.ntmps30
  go_wp2_with (first
    | (with_reducible refine wpList_boxV (w := w) (by with_unfolding_all rfl) 66 (.tmp 0) (by with_unfolding_all rfl) (trv rv re a1 rn c1 t1 t2 t3 s1 s2 s3 gv ge b1 gn d1 hs hr ht) (by with_unfolding_all rfl) ?_; intro w1 hA1 hB1 hS1; have z1 : w.heap.size < w1.heap.size := (by omega); clear hS1)
    | (with_reducible refine wpList_boxV (w := w1) (by with_unfolding_all rfl) 66 (.tmp 1) (by with_unfolding_all rfl) (trv rv re a2 rn c2 t1 t2 t3 s1 s2 s3 gv ge b2 gn d2 hs hr ht) (by with_unfolding_all rfl) ?_; intro w2 hA2 hB2 hS2; clear hS2; have HS2 := KpT2.mk0 (u := ⟨rv, re, rn, t1, t2, t3, s1, s2, s3, gv, ge, gn, hs, hr, ht⟩) HA1 HA2 hA1 hB1 hA2 hB2 z1; obtain ⟨⟨p0, p1, p2, p3, p4, p5, p6, p7, p8, p9, p10, p11, p12, p13, p14⟩, ⟨q0, q1, q2, q3, q4, q5, q6, q7, q8, q9, q10, q11, q12, q13, q14⟩, _⟩ := KpT2.all HS2; clear hA1 hB1 hA2 hB2)
    | (go_at_call 80; with_reducible refine (hR w2 _ HS2).mono ?_; rintro e w3 ⟨rfl, hB3⟩; have HS3 := KpT2.call HS2 hB3; clear p0 p1 p2 p3 p4 p5 p6 p7 p8 p9 p10 p11 p12 p13 p14 q0 q1 q2 q3 q4 q5 q6 q7 q8 q9 q10 q11 q12 q13 q14; obtain ⟨⟨p0, p1, p2, p3, p4, p5, p6, p7, p8, p9, p10, p11, p12, p13, p14⟩, ⟨q0, q1, q2, q3, q4, q5, q6, q7, q8, q9, q10, q11, q12, q13, q14⟩, _⟩ := KpT2.all HS3)
    | (go_at_call 81; with_reducible refine (hL1 w3).mono ?_; rintro e w4 ⟨rfl, hB4⟩; have HS4 := KpT2.call HS3 hB4; clear p0 p1 p2 p3 p4 p5 p6 p7 p8 p9 p10 p11 p12 p13 p14 q0 q1 q2 q3 q4 q5 q6 q7 q8 q9 q10 q11 q12 q13 q14; obtain ⟨⟨p0, p1, p2, p3, p4, p5, p6, p7, p8, p9, p10, p11, p12, p13, p14⟩, ⟨q0, q1, q2, q3, q4, q5, q6, q7, q8, q9, q10, q11, q12, q13, q14⟩, _⟩ := KpT2.all HS4)
    | (go_at_call 81; with_reducible refine (hL2 w4).mono ?_; rintro e w5 ⟨rfl, hB5⟩; have HS5 := KpT2.call HS4 hB5; clear p0 p1 p2 p3 p4 p5 p6 p7 p8 p9 p10 p11 p12 p13 p14 q0 q1 q2 q3 q4 q5 q6 q7 q8 q9 q10 q11 q12 q13 q14; obtain ⟨⟨p0, p1, p2, p3, p4, p5, p6, p7, p8, p9, p10, p11, p12, p13, p14⟩, ⟨q0, q1, q2, q3, q4, q5, q6, q7, q8, q9, q10, q11, q12, q13, q14⟩, _⟩ := KpT2.all HS5)
    | (go_at_call 82; with_reducible refine (hG w5 _ HS5).mono ?_; rintro e w6 ⟨rfl, hB6⟩; have HS6 := KpT2.call HS5 hB6; clear p0 p1 p2 p3 p4 p5 p6 p7 p8 p9 p10 p11 p12 p13 p14 q0 q1 q2 q3 q4 q5 q6 q7 q8 q9 q10 q11 q12 q13 q14; obtain ⟨⟨p0, p1, p2, p3, p4, p5, p6, p7, p8, p9, p10, p11, p12, p13, p14⟩, ⟨q0, q1, q2, q3, q4, q5, q6, q7, q8, q9, q10, q11, q12, q13, q14⟩, _⟩ := KpT2.all HS6)
    | (go_at_call 83; with_reducible refine (hH w6).mono ?_; rintro e w7 ⟨rfl, hB7⟩; have HS7 := KpT2.call HS6 hB7))
  go_ret
  exact ⟨rfl, HS7.out.k1.below⟩
end Go.Proofs.YtdfglpbappeoaabDoor
