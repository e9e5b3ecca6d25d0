/- A trust among the arguments of a law, as its statement reads it. -/
import Derived.Test.YtdfglpbappeoaabDoorArg
import Derived.Test.YtdfglpbappeoaabDoorTrA
import Derived.ProofKit
import Derived.OpenShut
import Derived.ShutString
import Derived.ChangeOld
import Derived.Below
import Derived.Lib.SmallJoins
namespace Go.Proofs.YtdfglpbappeoaabDoor
open Go.RowKit Go.ChangeShapes Go.WideShapes Go.ChangeAt Go.Joins
open Go.ChangeMaps (open_string shut_string)
set_option linter.unusedVariables false

theorem intsT_arg {H : Type} {enc : TypeId × Value → H} {w : World} {base : Nat} {spare : Nat → Bool} {held : Bool} {fuel : Nat} {cs : List Value} {x : DataW H × List MemPlace} (h : DataW.trod enc Tryd.prog w base spare held fuel 72 cs = some x) :
    ∃ (a : Option Addr) (n c : Nat), cs = [.slice a n c] ∧ n ≤ c ∧ c ≤ maxLen ∧ ∃ l : List Int, l.length = n ∧ AI w a l ∧ ∀ x ∈ l, I64 x := by
  obtain ⟨a, n, c, h1, h2, h3, h4⟩ := open_elems (k := 1) Tryd.underlying72 (by kernel_rfl) (by decide) (fun cs => ∃ x : Int, cs = [.int .i64 x] ∧ I64 x) (fun fuel cs y hy => by
    obtain ⟨z0, e0, _, w0⟩ := DataW.trod_int Tryd.underlying2 hy
    exact ⟨z0, e0, w0⟩) h
  refine ⟨a, n, c, h1, h2, h3, ?_⟩
  obtain ⟨l, hl, hp⟩ := exists_list (P := fun i (x : Int) => (∃ b o, a = some ⟨b, o, none⟩ ∧ w.cell? ⟨b, o + i, none⟩ = some (.int .i64 x)) ∧ I64 x) n (fun i hi => by
    obtain ⟨b, o, cs, ha, hlen, hcs, x, rfl, hx⟩ := h4 i hi
    have := hcs 0 (by decide)
    rw [Nat.mul_one, Nat.add_zero] at this
    exact ⟨x, ⟨b, o, ha, this⟩, hx⟩)
  refine ⟨l, hl, fun i hi => (hp i hi).1, fun x hx => ?_⟩
  obtain ⟨i, hi, rfl⟩ := List.mem_iff_getElem.1 hx
  exact (hp i hi).2
theorem rlsT_arg {H : Type} {enc : TypeId × Value → H} {w : World} {base : Nat} {spare : Nat → Bool} {held : Bool} {fuel : Nat} {cs : List Value} {x : DataW H × List MemPlace} (h : DataW.trod enc Tryd.prog w base spare held fuel 43 cs = some x) :
    ∃ (a : Option Addr) (n c : Nat), cs = [.slice a n c] ∧ n ≤ c ∧ c ≤ maxLen ∧ ∃ l : List RoleV, l.length = n ∧ RlsAt w a l ∧ ∀ x ∈ l, RoleW x := by
  obtain ⟨a, n, c, h1, h2, h3, h4⟩ := open_elems (k := 2) Tryd.underlying43 (by kernel_rfl) (by decide) (fun cs => ∃ x : RoleV, cs = rlv x.need x.ka x.ks.length x.kc ∧ AI w x.ka x.ks ∧ RoleW x) (fun fuel cs y hy => by
    obtain ⟨c0, c1, y0, y1, n, rfl, k0, k1⟩ := cells2 Tryd.underlying156 (by kernel_rfl) (by kernel_rfl) hy
    obtain ⟨z0, e0, _, w0⟩ := DataW.trod_int Tryd.underlying2 k0
    obtain ⟨ka, m, kc, e1, hm1, hm2, ks, hks, hai, hw⟩ := intsT_arg k1
    injection e0 with e0
    injection e1 with e1
    subst e0 e1
    subst hks
    exact ⟨⟨z0, ka, kc, ks⟩, rfl, hai, w0, Nat.le_trans hm1 hm2, hw⟩) h
  refine ⟨a, n, c, h1, h2, h3, ?_⟩
  obtain ⟨l, hl, hp⟩ := exists_list (P := fun i (x : RoleV) => (∃ b o, a = some ⟨b, o, none⟩ ∧ w.cell? ⟨b, o + i * 2, none⟩ = some (.int .i64 x.need) ∧ w.cell? ⟨b, o + i * 2 + 1, none⟩ = some (.slice x.ka x.ks.length x.kc) ∧ AI w x.ka x.ks) ∧ RoleW x) n (fun i hi => by
    obtain ⟨b, o, cs, ha, hlen, hcs, x, rfl, hx, hy⟩ := h4 i hi
    exact ⟨x, ⟨b, o, ha, hcs 0 (by decide), hcs 1 (by decide), hx⟩, hy⟩)
  refine ⟨l, hl, fun i hi => (hp i hi).1, fun x hx => ?_⟩
  obtain ⟨i, hi, rfl⟩ := List.mem_iff_getElem.1 hx
  exact (hp i hi).2
theorem tgsT_arg {H : Type} {enc : TypeId × Value → H} {w : World} {base : Nat} {spare : Nat → Bool} {held : Bool} {fuel : Nat} {cs : List Value} {x : DataW H × List MemPlace} (h : DataW.trod enc Tryd.prog w base spare held fuel 48 cs = some x) :
    ∃ (a : Option Addr) (n c : Nat), cs = [.slice a n c] ∧ n ≤ c ∧ c ≤ maxLen ∧ ∃ l : List TarV, l.length = n ∧ TgsAt w a l ∧ ∀ x ∈ l, x.w := by
  obtain ⟨a, n, c, h1, h2, h3, h4⟩ := open_elems (k := 3) Tryd.underlying48 (by kernel_rfl) (by decide) (fun cs => ∃ x : TarV, cs = tgv x.nm x.im x.sz ∧ x.w) (fun fuel cs y hy => by
    obtain ⟨c0, c1, c2, y0, y1, y2, n, rfl, k0, k1, k2⟩ := cells3 Tryd.underlying159 (by kernel_rfl) (by kernel_rfl) hy
    obtain ⟨z0, e0, _, w0⟩ := DataW.trod_string Tryd.underlying9 k0
    obtain ⟨z1, e1, _, w1⟩ := DataW.trod_string Tryd.underlying9 k1
    obtain ⟨z2, e2, _, w2⟩ := DataW.trod_int Tryd.underlying2 k2
    injection e0 with e0
    injection e1 with e1
    injection e2 with e2
    subst e0 e1 e2
    exact ⟨⟨z0, z1, z2⟩, rfl, w0, w1, w2⟩) h
  refine ⟨a, n, c, h1, h2, h3, ?_⟩
  obtain ⟨l, hl, hp⟩ := exists_list (P := fun i (x : TarV) => (∃ b o, a = some ⟨b, o, none⟩ ∧ w.cell? ⟨b, o + i * 3, none⟩ = some (.string x.nm) ∧ w.cell? ⟨b, o + i * 3 + 1, none⟩ = some (.string x.im) ∧ w.cell? ⟨b, o + i * 3 + 2, none⟩ = some (.int .i64 x.sz)) ∧ x.w) n (fun i hi => by
    obtain ⟨b, o, cs, ha, hlen, hcs, x, rfl, hx⟩ := h4 i hi
    exact ⟨x, ⟨b, o, ha, hcs 0 (by decide), hcs 1 (by decide), hcs 2 (by decide)⟩, hx⟩)
  refine ⟨l, hl, fun i hi => (hp i hi).1, fun x hx => ?_⟩
  obtain ⟨i, hi, rfl⟩ := List.mem_iff_getElem.1 hx
  exact (hp i hi).2
theorem rt_cells {H : Type} {enc : TypeId × Value → H} {w : World} {base : Nat} {spare : Nat → Bool} {held : Bool} {fuel : Nat} {cs : List Value} {x : DataW H × List MemPlace} (h : DataW.trod enc Tryd.prog w base spare held fuel 45 cs = some x) :
    ∃ (v e : Int) (a : Option Addr) (n c : Nat), cs = rtv v e a n c ∧ n ≤ c ∧ c ≤ maxLen ∧ I64 v ∧ I64 e ∧ ∃ l : List RoleV, l.length = n ∧ RlsAt w a l ∧ ∀ x ∈ l, RoleW x := by
  obtain ⟨c0, c1, c2, y0, y1, y2, m, rfl, hy0, hy1, hy2⟩ := cells3 Tryd.underlying45 (by kernel_rfl) (by kernel_rfl) h
  obtain ⟨k, hk1, _, hk2⟩ := DataW.trod_int Tryd.underlying2 hy0
  obtain ⟨x, hx1, _, hx2⟩ := DataW.trod_int Tryd.underlying2 hy1
  injection hk1 with hk1
  injection hx1 with hx1
  subst hk1 hx1
  obtain ⟨a, n, c, hc1, hnc, hcm, hEA⟩ := rlsT_arg hy2
  injection hc1 with hc1
  subst hc1
  exact ⟨k, x, a, n, c, rfl, hnc, hcm, hk2, hx2, hEA⟩
theorem ts_cells {H : Type} {enc : TypeId × Value → H} {w : World} {base : Nat} {spare : Nat → Bool} {held : Bool} {fuel : Nat} {cs : List Value} {x : DataW H × List MemPlace} (h : DataW.trod enc Tryd.prog w base spare held fuel 50 cs = some x) :
    ∃ (v e : Int) (a : Option Addr) (n c : Nat), cs = rtv v e a n c ∧ n ≤ c ∧ c ≤ maxLen ∧ I64 v ∧ I64 e ∧ ∃ l : List TarV, l.length = n ∧ TgsAt w a l ∧ ∀ x ∈ l, x.w := by
  obtain ⟨c0, c1, c2, y0, y1, y2, m, rfl, hy0, hy1, hy2⟩ := cells3 Tryd.underlying50 (by kernel_rfl) (by kernel_rfl) h
  obtain ⟨k, hk1, _, hk2⟩ := DataW.trod_int Tryd.underlying2 hy0
  obtain ⟨x, hx1, _, hx2⟩ := DataW.trod_int Tryd.underlying2 hy1
  injection hk1 with hk1
  injection hx1 with hx1
  subst hk1 hx1
  obtain ⟨a, n, c, hc1, hnc, hcm, hEA⟩ := tgsT_arg hy2
  injection hc1 with hc1
  subst hc1
  exact ⟨k, x, a, n, c, rfl, hnc, hcm, hk2, hx2, hEA⟩
theorem lk_cells {H : Type} {enc : TypeId × Value → H} {w : World} {base : Nat} {spare : Nat → Bool} {held : Bool} {fuel : Nat} {cs : List Value} {x : DataW H × List MemPlace} (h : DataW.trod enc Tryd.prog w base spare held fuel 47 cs = some x) :
    ∃ (v e y : Int), cs = lkv v e y ∧ I64 v ∧ I64 e ∧ I64 y := by
  obtain ⟨c0, c1, c2, y0, y1, y2, m, rfl, hy0, hy1, hy2⟩ := cells3 Tryd.underlying47 (by kernel_rfl) (by kernel_rfl) h
  obtain ⟨k, hk1, _, hk2⟩ := DataW.trod_int Tryd.underlying2 hy0
  obtain ⟨x, hx1, _, hx2⟩ := DataW.trod_int Tryd.underlying2 hy1
  obtain ⟨s, hs1, _, hs2⟩ := DataW.trod_int Tryd.underlying2 hy2
  injection hk1 with hk1
  injection hx1 with hx1
  injection hs1 with hs1
  subst hk1 hx1 hs1
  exact ⟨k, x, s, rfl, hk2, hx2, hs2⟩
theorem hd_cells {H : Type} {enc : TypeId × Value → H} {w : World} {base : Nat} {spare : Nat → Bool} {held : Bool} {fuel : Nat} {cs : List Value} {x : DataW H × List MemPlace} (h : DataW.trod enc Tryd.prog w base spare held fuel 52 cs = some x) :
    ∃ (v : Int) (e : ByteArray) (y : Int), cs = hdv v e y ∧ I64 v ∧ e.size ≤ maxLen ∧ I64 y := by
  obtain ⟨c0, c1, c2, y0, y1, y2, m, rfl, hy0, hy1, hy2⟩ := cells3 Tryd.underlying52 (by kernel_rfl) (by kernel_rfl) h
  obtain ⟨k, hk1, _, hk2⟩ := DataW.trod_int Tryd.underlying2 hy0
  obtain ⟨x, hx1, _, hx2⟩ := DataW.trod_string Tryd.underlying9 hy1
  obtain ⟨s, hs1, _, hs2⟩ := DataW.trod_int Tryd.underlying2 hy2
  injection hk1 with hk1
  injection hx1 with hx1
  injection hs1 with hs1
  subst hk1 hx1 hs1
  exact ⟨k, x, s, rfl, hk2, hx2, hs2⟩
theorem Tryd.trC : Tryd.prog.cellsOf 54 = 15 := by kernel_rfl
theorem Tryd.trC0 : Tryd.prog.cellsOf 45 = 3 := by kernel_rfl
theorem Tryd.trC1 : Tryd.prog.cellsOf 47 = 3 := by kernel_rfl
theorem Tryd.trC3 : Tryd.prog.cellsOf 50 = 3 := by kernel_rfl
theorem Tryd.trC4 : Tryd.prog.cellsOf 52 = 3 := by kernel_rfl
structure TruI (u : TruU) : Prop where
  rv : I64 u.rv
  re : I64 u.re
  t1 : I64 u.t1
  t2 : I64 u.t2
  t3 : I64 u.t3
  s1 : I64 u.s1
  s2 : I64 u.s2
  s3 : I64 u.s3
  gv : I64 u.gv
  ge : I64 u.ge
  hs : I64 u.hs
  ht : I64 u.ht
set_option maxRecDepth 100000 in
theorem cut15 {l : List Value} {a b c d e : List Value} (hl : l.length = 15) (h0 : (l.drop 0).take 3 = a) (h1 : (l.drop 3).take 3 = b) (h2 : (l.drop 6).take 3 = c) (h3 : (l.drop 9).take 3 = d) (h4 : (l.drop 12).take 3 = e) : l = a ++ (b ++ (c ++ (d ++ e))) := by
  subst h0 h1 h2 h3 h4
  match l, hl with
  | [_, _, _, _, _, _, _, _, _, _, _, _, _, _, _], _ => rfl
set_option maxRecDepth 100000 in
theorem trust_arg {H : Type} {enc : TypeId × Value → H} {w : World} {base : Nat} {spare : Nat → Bool} {held : Bool} {r : Reach} {b0 : Nat} {v : Value} {d : DataW H} {p : List MemPlace} (hv : Value.okWide Tryd.prog w r b0 54 v) (h : DataW.Trod enc Tryd.prog w base spare held 54 v d p) :
    ∃ (u : TruU) (ra : Option Addr) (rc : Nat) (ga : Option Addr) (gc : Nat) (rs : List RoleV) (gs : List TarV), v = .agg (u.row ra rc ga gc).toArray ∧ RlsAt w ra rs ∧ TgsAt w ga gs ∧ TrW u rs gs ∧ TruI u := by
  obtain ⟨cs, rfl, hsz⟩ := okWide_struct Tryd.underlying54 hv
  obtain ⟨l⟩ := cs
  obtain ⟨fuel, hf⟩ := h
  have hf2 : DataW.trod enc Tryd.prog w base spare held fuel 54 l = some (d, p) := hf
  have hl : l.length = 15 := hsz.trans Tryd.trC
  obtain ⟨xs, n, _, hx, hlc, hlen, hq⟩ := DataW.trod_struct Tryd.underlying54 hf2
  match xs, hlen with
  | [y0, y1, y2, y3, y4], _ =>
    have q0 : DataW.trod enc Tryd.prog w base spare held n 45 ((l.drop 0).take (Tryd.prog.cellsOf 45)) = some y0 := hq 0 _ rfl
    rw [Tryd.trC0] at q0
    have q1 : DataW.trod enc Tryd.prog w base spare held n 47 ((l.drop 3).take (Tryd.prog.cellsOf 47)) = some y1 := hq 1 _ rfl
    rw [Tryd.trC1] at q1
    have q2 : DataW.trod enc Tryd.prog w base spare held n 47 ((l.drop 6).take (Tryd.prog.cellsOf 47)) = some y2 := hq 2 _ rfl
    rw [Tryd.trC1] at q2
    have q3 : DataW.trod enc Tryd.prog w base spare held n 50 ((l.drop 9).take (Tryd.prog.cellsOf 50)) = some y3 := hq 3 _ rfl
    rw [Tryd.trC3] at q3
    have q4 : DataW.trod enc Tryd.prog w base spare held n 52 ((l.drop 12).take (Tryd.prog.cellsOf 52)) = some y4 := hq 4 _ rfl
    rw [Tryd.trC4] at q4
    obtain ⟨rv, re, ra, rn, rc, e0, m0, m1, i0, i1, rs, hrs, hrl, hrw⟩ := rt_cells q0
    obtain ⟨t1, t2, t3, e1, j0, j1, j2⟩ := lk_cells q1
    obtain ⟨s1, s2, s3, e2, k0, k1, k2⟩ := lk_cells q2
    obtain ⟨gv, ge, ga, gn, gc, e3, n0, n1, l0, l1, gs, hgs, hgl, hgw⟩ := ts_cells q3
    obtain ⟨hs, hr, ht, e4, o0, o1, o2⟩ := hd_cells q4
    have hcut := cut15 hl e0 e1 e2 e3 e4
    refine ⟨⟨rv, re, rn, t1, t2, t3, s1, s2, s3, gv, ge, gn, hs, hr, ht⟩, ra, rc, ga, gc, rs, gs, ?_, hrl, hgl, ⟨hrs, Nat.le_trans m0 m1, hrw, hgs, Nat.le_trans n0 n1, hgw, o1⟩, ⟨i0, i1, j0, j1, j2, k0, k1, k2, l0, l1, o0, o2⟩⟩
    rw [hcut]
    rfl
end Go.Proofs.YtdfglpbappeoaabDoor
