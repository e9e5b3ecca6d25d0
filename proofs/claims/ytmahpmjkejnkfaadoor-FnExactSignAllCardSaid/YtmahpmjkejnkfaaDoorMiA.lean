/- The laws' helpers of roles and roots: how much room they take, turned to the program's, held against others. Roles and roots held against others by the laws' helpers. What all of some secrets sign: the numbers, and what stands while it is gathered. SignAll on the program's side. SignAll on the specification's side. The law of SignAll, for every list of numbers and every text. -/
import Derived.Test.YtmahpmjkejnkfaaDoorMetR
import Derived.Test.YtmahpmjkejnkfaaDoorBld
import Derived.Deep.RegionHeld3
import Derived.Test.YtmahpmjkejnkfaaDoorMkS
import Derived.Test.YtmahpmjkejnkfaaDoorSgnI
namespace Go.Proofs.YtmahpmjkejnkfaaDoor
open Go.RowKit
set_option linter.unusedVariables false

theorem IAt.ai {w : World} {a : Option Addr} {l : List Int} (h : IAt w a l) : AI w a l := fun k hk => by
  obtain ⟨g, ha, hc⟩ := h (fun e => by rw [e] at hk; exact absurd hk (Nat.not_lt_zero _))
  exact ⟨g, 0, ha, by rw [Nat.zero_add]; exact (hc k hk).1⟩
theorem AI.other {w w' : World} {g b : Nat} {l : List Int} (h : AI w (some ⟨b, 0, none⟩) l) (hF : ∀ x : Addr, x.block ≠ g → w'.cell? x = w.cell? x ∧ w'.frozen? x = w.frozen? x) (hne : b ≠ g) : AI w' (some ⟨b, 0, none⟩) l := fun k hk => by
  obtain ⟨b', o', h1, h2⟩ := h k hk
  injection h1 with h1
  injection h1 with e1 e2
  subst e1 e2
  exact ⟨b, 0, rfl, ((hF _ hne).1).trans h2⟩
theorem set_other {w : World} {g o : Nat} {l : List Value} : ∀ x : Addr, x.block ≠ g → (w.setCells g o l).cell? x = w.cell? x ∧ (w.setCells g o l).frozen? x = w.frozen? x :=
  fun x hx => ⟨World.cell?_setCells_out g _ _ _ x (fun e => absurd e hx), World.frozen?_setCells g _ _ _ x⟩
theorem Tryd.infoRl : (Tryd.prog.info? 31).map (fun i => (i.zero, i.size, i.bytes)) = some (some (.agg #[.int .i64 0, .slice none 0 0]), 2, 32) := by kernel_rfl
theorem Tryd.infoRlz : (Tryd.prog.info? 31).map (fun i => i.zero) = some (some (.agg (rlv 0 none 0 0).toArray)) := by kernel_rfl
theorem Tryd.undRl : ∃ d, Tryd.prog.underlying 31 = some d ∧ d.isRow = true := ⟨_, Tryd.underlying31, rfl⟩
theorem Tryd.sizeRl : (Tryd.prog.info? 31).map (·.size) = some 2 := by kernel_rfl
theorem Tryd.size1Int : (Tryd.prog.info? 2).map (·.size) = some 1 := by kernel_rfl
theorem Tryd.size1Is : (Tryd.prog.info? 22).map (·.size) = some 1 := by kernel_rfl
theorem rlv_one (z : Int) (a : Option Addr) (n c : Nat) : ∀ v ∈ rlv z a n c, v.oneCell' = true := by
  intro v hv
  simp [rlv] at hv
  rcases hv with h | h <;> (rw [h]; rfl)
theorem rlv_ne (z : Int) (a : Option Addr) (n c : Nat) : rlv z a n c ≠ [] := by simp [rlv]
theorem rtv_one (v e : Int) (a : Option Addr) (n c : Nat) : ∀ x ∈ rtv v e a n c, x.oneCell' = true := by
  intro v hv
  simp [rtv] at hv
  rcases hv with h | h | h <;> (rw [h]; rfl)
def RoleV.key (r : RoleV) : Int × List Int := (r.need, r.ks)
def rkeys (rs : List RoleV) : List (Int × List Int) := rs.map RoleV.key
theorem rkeys_get {rs rs' : List RoleV} (h : rkeys rs = rkeys rs') {i : Nat} (h1 : i < rs.length) (h2 : i < rs'.length) : rs[i].need = rs'[i].need ∧ rs[i].ks = rs'[i].ks := by
  have : (rkeys rs)[i]? = (rkeys rs')[i]? := by rw [h]
  unfold rkeys at this
  rw [List.getElem?_map, List.getElem?_map, List.getElem?_eq_getElem h1, List.getElem?_eq_getElem h2] at this
  have := Option.some.inj this
  unfold RoleV.key at this
  exact ⟨congrArg Prod.fst this, congrArg Prod.snd this⟩
theorem rkeys_len {rs rs' : List RoleV} (h : rkeys rs = rkeys rs') : rs.length = rs'.length := by
  have := congrArg List.length h
  unfold rkeys at this
  rwa [List.length_map, List.length_map] at this
theorem rolesB_rkeys (rs : List RoleV) : rolesB rs = (rkeys rs).all (fun x => roleB x.1 x.2) := by
  unfold rolesB rkeys
  rw [List.all_map]
  rfl
theorem rootB_rkeys {v e : Int} {rs rs' : List RoleV} (h : rkeys rs = rkeys rs') : rootB v e rs = rootB v e rs' := by
  unfold rootB
  rw [rkeys_len h, rolesB_rkeys rs, rolesB_rkeys rs', h]
theorem roleW_rkeys {rs rs' : List RoleV} (h : rkeys rs = rkeys rs') (hw : ∀ r ∈ rs, RoleW r) : ∀ r ∈ rs', RoleW r := fun r hr => by
  obtain ⟨i, hi, rfl⟩ := List.mem_iff_getElem.1 hr
  have hl := rkeys_len h
  obtain ⟨h1, h2⟩ := rkeys_get h (by omega) hi
  have := hw _ (List.getElem_mem (show i < rs.length by omega))
  unfold RoleW at *
  rwa [h1, h2] at this
theorem rkeys_snoc {rs rs' : List RoleV} {r : RoleV} {k : Nat} (h : rkeys rs' = rkeys (rs.take k)) (hk : k < rs.length) (h1 : r.need = rs[k].need) (h2 : r.ks = rs[k].ks) : rkeys (rs' ++ [r]) = rkeys (rs.take (k + 1)) := by
  rw [List.take_succ_eq_append_getElem hk]
  unfold rkeys at *
  rw [List.map_append, List.map_append, h]
  congr 1
  show [r.key] = [rs[k].key]
  unfold RoleV.key
  rw [h1, h2]
/- The room that roles take. -/
set_option maxRecDepth 100000 in
theorem szI2 (a : Option Addr) (c n : Nat) (q : Int) (w : World) (hn : n ≤ maxLen) (h0 : 0 ≤ q) (h1 : q ≤ 1048576) :
    Calls Tryd.prog 20 #[.slice a n c, .int .i64 q] w fun e w' => e = .returned (.int .i64 (if q - (n : Int) < 0 then -1 else q - n)) ∧ w = w' := by
  unfold maxLen at hn
  by_cases h : q - (n : Int) < 0
  · rw [if_pos h]
    go_enter Tryd.func20, Tryd.ntmps20
    go_wp2
    go_ret
    exact ⟨rfl, rfl⟩
  · rw [if_neg h]
    have h2 : 0 ≤ q - (n : Int) := by omega
    go_enter Tryd.func20, Tryd.ntmps20
    go_wp2
    go_ret
    exact ⟨rfl, rfl⟩
set_option maxRecDepth 100000 in
theorem szRl_any (nd : Int) (a : Option Addr) (c n : Nat) (q : Int) (w : World) (hn : n ≤ maxLen) (h0 : 0 ≤ q) (h1 : q ≤ 1048576) :
    Calls Tryd.prog 5 #[.agg #[.int .i64 nd, .slice a n c], .int .i64 q] w fun e w' => e = .returned (.int .i64 (if q - (n : Int) < 0 then -1 else q - n)) ∧ Below w.heap.size w w' := by
  have hI : ∀ w0, Calls Tryd.prog 20 #[.slice a n c, .int .i64 q] w0 fun e w' => e = .returned (.int .i64 (if q - (n : Int) < 0 then -1 else q - n)) ∧ w0 = w' := fun w0 => szI2 a c n q w0 hn h0 h1
  by_cases h : q - (n : Int) < 0
  · rw [if_pos h] at hI ⊢
    clear h
    go_enter Tryd.func5, Tryd.ntmps5
    go_wp2_with (first
      | (with_reducible refine wpList_boxV (w := w) (by with_unfolding_all rfl) 24 (.tmp 0) (by with_unfolding_all rfl) (rlv nd a n c) (by with_unfolding_all rfl) ?_; intro w1 hA1 hB1 hS1; obtain ⟨p0, p1⟩ := hA1.rl; clear hS1)
      | (go_at_call 20; with_reducible refine (hI _).mono ?_; rintro e w' ⟨rfl, rfl⟩))
    go_ret
    exact ⟨rfl, hB1⟩
  · rw [if_neg h] at hI ⊢
    obtain ⟨d, hd⟩ : ∃ d, q - (n : Int) = d := ⟨_, rfl⟩
    rw [hd] at hI h ⊢
    clear hd
    go_enter Tryd.func5, Tryd.ntmps5
    go_wp2_with (first
      | (with_reducible refine wpList_boxV (w := w) (by with_unfolding_all rfl) 24 (.tmp 0) (by with_unfolding_all rfl) (rlv nd a n c) (by with_unfolding_all rfl) ?_; intro w1 hA1 hB1 hS1; obtain ⟨p0, p1⟩ := hA1.rl; clear hS1)
      | (go_at_call 20; with_reducible refine (hI _).mono ?_; rintro e w' ⟨rfl, rfl⟩))
    go_ret
    exact ⟨rfl, hB1⟩
structure KpZ (w : World) (a : Option Addr) (rs : List RoleV) (w' : World) : Prop where
  below : Below w.heap.size w w'
  rl : RlsAt w' a rs
theorem KpZ.start {w : World} {a : Option Addr} {rs : List RoleV} (h : RlsAt w a rs) : Hid (KpZ w a rs w) := ⟨Below.refl _ _, h⟩
theorem KpZ.call {w w' w2 : World} {a : Option Addr} {rs : List RoleV} (h : Hid (KpZ w a rs w')) (hb : Below w'.heap.size w' w2) : Hid (KpZ w a rs w2) := ⟨h.out.below.trans (hb.mono h.out.below.size), h.out.rl.below hb⟩
end Go.Proofs.YtmahpmjkejnkfaaDoor
namespace Go.Proofs.YtmahpmjkejnkfaaDoor
open Go.RowKit
set_option linter.unusedVariables false

set_option maxRecDepth 100000 in
set_option maxHeartbeats 1000000 in
theorem eqAI_any (a1 a2 : Option Addr) (c1 c2 n : Nat) (l : List Int) (w : World) (hn : l.length = n) (h1 : AI w a1 l) (h2 : AI w a2 l) (hb : n ≤ maxLen) :
    Calls Tryd.prog 16 #[.slice a1 n c1, .slice a2 n c2] w fun e w' => e = .returned (.bool true) ∧ Below w.heap.size w w' := by
  unfold maxLen at hb
  have H1 : Hid (AI w a1 l) := h1
  have H2 : Hid (AI w a2 l) := h2
  have HN : Hid (l.length = n) := hn
  clear h1 h2 hn
  go_enter Tryd.func16, Tryd.ntmps16
  go_wp2_with fail
  go_loopw [5] (fun i wr => ∃ k : Nat, i = .int .i64 (k : Int) ∧ k ≤ n ∧ Below w.heap.size w wr) (fun i _ => n - (intOf i).toNat)
  case atStart => exact ⟨0, rfl, Nat.zero_le _, Below.refl _ _⟩
  case round =>
    obtain ⟨k, rfl, hk, hb'⟩ := hrel
    have HB : Hid (Below w.heap.size w wr) := hb'
    clear hb'
    by_cases hlt : k < n
    case neg =>
      obtain rfl : k = n := by omega
      go_wp2
      go_ret
      exact ⟨rfl, HB.out⟩
    have hkl : k < l.length := by have := HN.out; omega
    obtain ⟨b1, o1, rfl, d1⟩ := H1.out.below HB.out k hkl
    obtain ⟨b2, o2, rfl, d2⟩ := H2.out.below HB.out k hkl
    generalize l[k] = x at *
    have ex : (x == x) = true := by simp
    have lk : (k : Int) < n := by omega
    have l0 : (0 : Int) ≤ k := by omega
    clear hkl
    go_wp2_with fail
    go_quiet (fail)
    go_wp2
    go_roundw
    case rel => exact ⟨k + 1, by go_num, hlt, belowN HB.out _⟩
    case measure => simp [intOf]; omega
structure KpR1 (w : World) (a1 a2 : Option Addr) (l : List Int) (w' : World) : Prop where
  below : Below w.heap.size w w'
  s1 : AI w' a1 l
  s2 : AI w' a2 l
theorem KpR1.start {w : World} {a1 a2 : Option Addr} {l : List Int} (h1 : AI w a1 l) (h2 : AI w a2 l) : Hid (KpR1 w a1 a2 l w) := ⟨Below.refl _ _, h1, h2⟩
theorem KpR1.call {w w' w2 : World} {a1 a2 : Option Addr} {l : List Int} (h : Hid (KpR1 w a1 a2 l w')) (hb : Below w'.heap.size w' w2) : Hid (KpR1 w a1 a2 l w2) := ⟨h.out.below.trans (hb.mono h.out.below.size), h.out.s1.below hb, h.out.s2.below hb⟩
set_option maxRecDepth 100000 in
set_option maxHeartbeats 1000000 in
theorem eqRl1 (nd : Int) (a1 a2 : Option Addr) (c1 c2 n : Nat) (l : List Int) (w : World) (hn : l.length = n) (h1 : AI w a1 l) (h2 : AI w a2 l) (hb : n ≤ maxLen) :
    Calls Tryd.prog 11 #[.agg #[.int .i64 nd, .slice a1 n c1], .agg #[.int .i64 nd, .slice a2 n c2]] w fun e w' => e = .returned (.bool true) ∧ Below w.heap.size w w' := by
  have HS0 := KpR1.start h1 h2
  have hE : ∀ w0, Hid (KpR1 w a1 a2 l w0) → Calls Tryd.prog 16 #[.slice a1 n c1, .slice a2 n c2] w0 fun e w' => e = .returned (.bool true) ∧ Below w0.heap.size w0 w' := fun w0 h0 => eqAI_any a1 a2 c1 c2 n l w0 hn h0.out.s1 h0.out.s2 hb
  have ex : (nd == nd) = true := by simp
  clear h1 h2 hn
  go_enter Tryd.func11, Tryd.ntmps11
  go_wp2_with (first
    | (with_reducible refine wpList_boxV (w := w) (by with_unfolding_all rfl) 31 (.tmp 0) (by with_unfolding_all rfl) (rlv nd a1 n c1) (by with_unfolding_all rfl) ?_; intro w1 hA1 hB1 hS1; have z1 : w.heap.size < w1.heap.size := (by omega); clear hS1; have HS1 := KpR1.call HS0 hB1)
    | (with_reducible refine wpList_boxV (w := w1) (by with_unfolding_all rfl) 31 (.tmp 1) (by with_unfolding_all rfl) (rlv nd a2 n c2) (by with_unfolding_all rfl) ?_; intro w2 hA2 hB2 hS2; clear hS2; obtain ⟨p0, p1⟩ := (hA1.below hB2 z1).rl; obtain ⟨q0, q1⟩ := hA2.rl; have HS2 := KpR1.call HS1 hB2)
    | (go_at_call 16; with_reducible refine (hE w2 HS2).mono ?_; rintro e w3 ⟨rfl, hB3⟩; have HS3 := KpR1.call HS2 hB3))
  go_ret
  exact ⟨rfl, HS3.out.below⟩
structure KpR2 (w : World) (a1 a2 : Option Addr) (r1 r2 : List RoleV) (w' : World) : Prop where
  below : Below w.heap.size w w'
  s1 : RlsAt w' a1 r1
  s2 : RlsAt w' a2 r2
theorem KpR2.start {w : World} {a1 a2 : Option Addr} {r1 r2 : List RoleV} (h1 : RlsAt w a1 r1) (h2 : RlsAt w a2 r2) : Hid (KpR2 w a1 a2 r1 r2 w) := ⟨Below.refl _ _, h1, h2⟩
theorem KpR2.call {w w' w2 : World} {a1 a2 : Option Addr} {r1 r2 : List RoleV} (h : Hid (KpR2 w a1 a2 r1 r2 w')) (hb : Below w'.heap.size w' w2) : Hid (KpR2 w a1 a2 r1 r2 w2) := ⟨h.out.below.trans (hb.mono h.out.below.size), h.out.s1.below hb, h.out.s2.below hb⟩
theorem KpR2.drew {w w' : World} {a1 a2 : Option Addr} {r1 r2 : List RoleV} (h : Hid (KpR2 w a1 a2 r1 r2 w')) : Hid (KpR2 w a1 a2 r1 r2 w'.drew) := ⟨h.out.below.drew, h.out.s1, h.out.s2⟩
theorem KpR2.four {w w' : World} {b1 o1 b2 o2 i m kc1 kc2 : Nat} {r1 r2 : List RoleV} {nd : Int} {ka1 ka2 : Option Addr} (hr : Hid (True → ∃ (h : i < r1.length) (h' : i < r2.length), r1[i].need = nd ∧ r2[i].need = nd ∧ r1[i].ka = ka1 ∧ r2[i].ka = ka2 ∧ r1[i].kc = kc1 ∧ r2[i].kc = kc2 ∧ r1[i].ks.length = m ∧ r2[i].ks.length = m)) (h : Hid (KpR2 w (some ⟨b1, o1, none⟩) (some ⟨b2, o2, none⟩) r1 r2 w')) :
    w'.cell? ⟨b1, o1 + i * 2, none⟩ = some (.int .i64 nd) ∧ w'.cell? ⟨b1, o1 + i * 2 + 1, none⟩ = some (.slice ka1 m kc1) ∧ w'.cell? ⟨b2, o2 + i * 2, none⟩ = some (.int .i64 nd) ∧ w'.cell? ⟨b2, o2 + i * 2 + 1, none⟩ = some (.slice ka2 m kc2) ∧ Hid (KpR2 w (some ⟨b1, o1, none⟩) (some ⟨b2, o2, none⟩) r1 r2 w') := by
  obtain ⟨hi, hi', e1, e2, e3, e4, e5, e6, e7, e8⟩ := hr.out trivial
  obtain ⟨b', o', h1, h2, h3, h4⟩ := h.out.s1 i hi
  injection h1 with h1
  injection h1 with f1 f2
  subst f1 f2
  obtain ⟨b', o', k1, k2, k3, k4⟩ := h.out.s2 i hi'
  injection k1 with k1
  injection k1 with f1 f2
  subst f1 f2
  rw [e1] at h2
  rw [e3, e5, e7] at h3
  rw [e2] at k2
  rw [e4, e6, e8] at k3
  exact ⟨h2, h3, k2, k3, h⟩
end Go.Proofs.YtmahpmjkejnkfaaDoor
namespace Go.Proofs.YtmahpmjkejnkfaaDoor
open Go.RowKit
set_option linter.unusedVariables false

def sgnV (t : ByteArray) (x : Int) : SigV := ⟨powM 4 x 2147483579, eM x t, sM x t⟩
def saB (l : List Int) (t : ByteArray) : Bool := decide (l.length ≤ 16 ∧ t.size ≤ 8000) && l.all secB
def saT (l : List Int) (t : ByteArray) : ByteArray := if saB l t then t else ⟨#[]⟩
def saL (l : List Int) (t : ByteArray) : List SigV := if saB l t then l.map (sgnV t) else []
theorem saT_no {l : List Int} {t : ByteArray} (h : saB l t = false) : saT l t = ⟨#[]⟩ ∧ saL l t = [] := by unfold saT saL; rw [h]; exact ⟨rfl, rfl⟩
theorem saT_yes {l : List Int} {t : ByteArray} (h : saB l t = true) : saT l t = t ∧ saL l t = l.map (sgnV t) := by unfold saT saL; rw [h]; exact ⟨rfl, rfl⟩
theorem saB_long {l : List Int} {t : ByteArray} (h : ¬ (l.length ≤ 16 ∧ t.size ≤ 8000)) : saB l t = false := by unfold saB; rw [decide_eq_false h]; rfl
theorem saB_all {l : List Int} {t : ByteArray} (h : l.length ≤ 16 ∧ t.size ≤ 8000) : saB l t = l.all secB := by unfold saB; rw [decide_eq_true h]; rfl
theorem secs_no {l : List Int} {k : Nat} (hk : k < l.length) (h : ¬ IsSec l[k]) : l.all secB = false := by
  rw [List.all_eq_false]
  exact ⟨l[k], List.getElem_mem hk, by rw [secB_no h]; decide⟩
theorem secs_yes {l : List Int} (h : ∀ k (hk : k < l.length), IsSec l[k]) : l.all secB = true := by
  rw [List.all_eq_true]
  intro x hx
  obtain ⟨k, hk, rfl⟩ := List.mem_iff_getElem.1 hx
  exact secB_yes (h k hk)
theorem take_next {l : List Int} {k : Nat} (f : Int → SigV) (hk : k < l.length) : (l.take k).map f ++ [f l[k]] = (l.take (k + 1)).map f := by
  rw [List.take_add_one, List.getElem?_eq_getElem hk, List.map_append]
  rfl
theorem own_mono {w : World} {base base' e s : Nat} {v : Value} {n : Nat} {xs : List Value} (h : w.ownsRow base e s v n xs) (hb : base' ≤ base) : w.ownsRow base' e s v n xs := by
  refine ⟨h.1, ?_⟩
  rcases h.2 with h0 | ⟨g, cap, cur, hv, hbg, hg, h1, h2, h3, h4⟩
  · exact .inl h0
  · exact .inr ⟨g, cap, cur, hv, Nat.le_trans hb hbg, hg, h1, h2, h3, h4⟩
def sdw (x : ByteArray) (v : Value) : List Value := [.string x, v]
theorem sdw_ne (x : ByteArray) (v : Value) : sdw x v ≠ [] := by simp [sdw]
structure KpSa (w : World) (G2 G5 B : Nat) (t : ByteArray) (v : Value) (m : List SigV) (w' : World) : Prop where
  bel : Below w.heap.size w w'
  r2 : RowV w' G2 (sgv ⟨#[]⟩ none 0 0)
  r5 : RowV w' G5 (sdw t v)
  own : OwnSg w' B v m
  sz : B ≤ w'.heap.size
  c2 : w.heap.size ≤ G2
  c5 : G2 < G5
  cb : G5 < B
section
variable {w w' w2 : World} {G2 G5 B : Nat} {t : ByteArray} {v v' : Value} {m m' : List SigV}
theorem KpSa.start (h1 : Below w.heap.size w w') (h2 : RowV w' G2 (sgv ⟨#[]⟩ none 0 0)) (h5 : RowV w' G5 (sgv t none 0 0)) (c2 : w.heap.size ≤ G2) (c5 : G2 < G5) (cb : G5 < w'.heap.size) : Hid (KpSa w G2 G5 w'.heap.size t (.slice none 0 0) [] w') :=
  ⟨h1, h2, h5, ⟨rfl, .inl ⟨rfl, rfl⟩⟩, Nat.le_refl _, c2, c5, cb⟩
theorem KpSa.call (h : Hid (KpSa w G2 G5 B t v m w')) (hb : Below w'.heap.size w' w2) : Hid (KpSa w G2 G5 B t v m w2) :=
  ⟨h.out.bel.trans (hb.mono h.out.bel.size), h.out.r2.below hb (h.out.r2.lt (sgv_ne _ _ _ _)), h.out.r5.below hb (h.out.r5.lt (sdw_ne _ _)), own_same h.out.own (fun k _ hl => hb.block k hl), Nat.le_trans h.out.sz hb.size, h.out.c2, h.out.c5, h.out.cb⟩
theorem KpSa.drew (h : Hid (KpSa w G2 G5 B t v m w')) : Hid (KpSa w G2 G5 B t v m w'.drew) := ⟨h.out.bel.drew, h.out.r2.drew, h.out.r5.drew, h.out.own, h.out.sz, h.out.c2, h.out.c5, h.out.cb⟩
theorem KpSa.cell (h : Hid (KpSa w G2 G5 B t v m w')) : w'.cell? ⟨G5, 0, none⟩ = some (.string t) ∧ w'.cell? ⟨G5, 1, none⟩ = some v := ⟨h.out.r5.cell (k := 0) rfl, h.out.r5.cell (k := 1) rfl⟩
/- The row has grown by one, and the field is set to it. -/
theorem KpSa.put {w3 : World} (h : Hid (KpSa w G2 G5 B t v m w')) (ho : OwnSg w2 B v' m') (hg : w'.grownBy w2 v.ownBlock) (h5 : RowV w3 G5 (sdw t v')) (h3 : Only G5 w2 w3) : Hid (KpSa w G2 G5 B t v' m' w3) := by
  have e := h.out.sz
  have hb : Below B w' w2 := ⟨hg.os, hg.tape, hg.output, hg.size, fun k hk => hg.block k (by omega) (fun e2 => by have := (own_ge h.out.own e2.symm).1; omega)⟩
  have a2 := h.out.c2
  have a5 := h.out.c5
  have ab := h.out.cb
  exact ⟨(h.out.bel.trans (hb.mono (by omega))).trans (h3.bel (by omega)), h3.row (h.out.r2.below hb (by omega)) (sgv_ne _ _ _ _) (by omega), h5, own_same ho (fun k hk hl => h3.blk k (fun e2 => by have := (own_ge ho hk).1; omega) hl), Nat.le_trans e (Nat.le_trans hg.size h3.size), a2, a5, ab⟩
theorem KpSa.r5g (h : Hid (KpSa w G2 G5 B t v m w')) (hg : w'.grownBy w2 v.ownBlock) : RowV w2 G5 (sdw t v) := by
  have e := h.out.sz
  have ab := h.out.cb
  exact row_blk h.out.r5 (hg.block G5 (by omega) (fun e2 => by have := (own_ge h.out.own e2.symm).1; omega))
theorem KpSa.r5H (h : Hid (KpSa w G2 G5 B t v m w')) : RowV w' G5 (sdw t v) := h.out.r5
theorem KpSa.r2H (h : Hid (KpSa w G2 G5 B t v m w')) : RowV w' G2 (sgv ⟨#[]⟩ none 0 0) := h.out.r2
theorem KpSa.done (h : Hid (KpSa w G2 G5 B t v m w')) (ho : Only G2 w' w2) : Below w.heap.size w w2 ∧ OwnSg w2 w.heap.size v m := by
  have a2 := h.out.c2
  have a5 := h.out.c5
  have ab := h.out.cb
  exact ⟨h.out.bel.trans (ho.bel a2), own_mono (own_same h.out.own (fun k hk hl => ho.blk k (fun e2 => by have := (own_ge h.out.own hk).1; omega) hl)) (by omega)⟩
end
theorem saRet {l : List Int} {t : ByteArray} (h : saB l t = false) : Ending.returned (.agg (sgv ⟨#[]⟩ none 0 0).toArray) = .returned (.agg #[.string (saT l t), .slice none 0 0]) := by rw [(saT_no h).1]; rfl
theorem saOwn {l : List Int} {t : ByteArray} {w : World} {B : Nat} (h : saB l t = false) : OwnSg w B (.slice none 0 0) (saL l t) := by rw [(saT_no h).2]; exact ⟨rfl, .inl ⟨rfl, rfl⟩⟩
theorem saRet1 {l : List Int} {t : ByteArray} {v : Value} (h : saB l t = true) : Ending.returned (.agg #[.string t, v]) = .returned (.agg #[.string (saT l t), v]) := by rw [(saT_yes h).1]
theorem sec_at {w w' : World} {G2 G5 B b o k : Nat} {t : ByteArray} {v : Value} {m : List SigV} {l : List Int} {x : Int} (h : Hid (AI w (some ⟨b, o, none⟩) l)) (hs : Hid (KpSa w G2 G5 B t v m w')) (hx : Hid (∃ hk : k < l.length, l[k] = x)) : w'.cell? ⟨b, o + k, none⟩ = some (.int .i64 x) := by
  obtain ⟨hk, rfl⟩ := hx.out
  obtain ⟨b', o', e, hc⟩ := (h.out.below hs.out.bel) k hk
  injection e with e
  injection e with e1 e2
  subst e1 e2
  exact hc
theorem sec_app {w w' w2 : World} {G2 G5 B b o k : Nat} {t : ByteArray} {v : Value} {m : List SigV} {x : Int} (hs : Hid (KpSa w G2 G5 B t v m w')) (hg : w'.grownBy w2 v.ownBlock) (hb : b < w.heap.size) (hc : w'.cell? ⟨b, o + k, none⟩ = some (.int .i64 x)) : w2.cell? ⟨b, o + k, none⟩ = some (.int .i64 x) := by
  have a2 := hs.out.c2
  have a5 := hs.out.c5
  have ab := hs.out.cb
  have e := hs.out.sz
  exact (same_far (x := ⟨b, o + k, none⟩) (hg.block b (by omega) (fun e2 => by have := (own_ge hs.out.own e2.symm).1; omega))).1.trans hc
end Go.Proofs.YtmahpmjkejnkfaaDoor
namespace Go.Proofs.YtmahpmjkejnkfaaDoor
open Go.RowKit
set_option linter.unusedVariables false

set_option maxRecDepth 100000 in
theorem implSecs (a : Option Addr) (c n : Nat) (l : List Int) (w : World) (hn : l.length = n) (h : AI w a l) (hb : n ≤ 1000000) (hw : ∀ x ∈ l, I64 x) :
    Calls Tryd.prog 33 #[.slice a n c] w fun r w' => r = .returned (.bool (l.all secB)) ∧ w' = w := by
  have HN : Hid (l.length = n) := hn
  have HA : Hid (AI w a l) := h
  have HW : Hid (∀ x ∈ l, I64 x) := hw
  have HNo : Hid (∀ k (hk : k < l.length), ¬ IsSec l[k] → l.all secB = false) := fun k hk h => secs_no hk h
  have HYs : Hid ((∀ k (hk : k < l.length), IsSec l[k]) → l.all secB = true) := secs_yes
  generalize l.all secB = R at *
  clear hn h hw
  go_enter Tryd.func33, Tryd.ntmps33
  go_wp2_with fail
  go_loopw [7] (fun vi wr => ∃ k : Nat, vi = .int .i64 (k : Int) ∧ k ≤ n ∧ wr = w ∧ Hid (∀ j (hj : j < l.length), j < k → IsSec l[j])) (fun vi _ => n - (intOf vi).toNat)
  case atStart => exact ⟨0, rfl, Nat.zero_le _, rfl, fun j hj h0 => absurd h0 (Nat.not_lt_zero _)⟩
  case round =>
    obtain ⟨k, rfl, hk, rfl, HT⟩ := hrel
    by_cases hlt : k < n
    case neg =>
      obtain rfl : k = n := by omega
      have HF : Hid (R = true) := HYs.out (fun j hj => HT.out j hj (by have := HN.out; omega))
      go_wp2
      go_ret
      exact ⟨retY HF.out.symm, rfl⟩
    have hkl : k < l.length := by have := HN.out; omega
    obtain ⟨b, o, rfl, hc⟩ := HA.out k hkl
    have lk : (k : Int) < n := by omega
    have l0 : (0 : Int) ≤ k := by omega
    have hG : ∀ w0, Calls Tryd.prog 51 #[.int .i64 l[k]] w0 fun r w' => r = .returned (.bool (secB l[k])) ∧ w0 = w' := fun w0 => (implSec l[k] w0 (HW.out _ (List.getElem_mem hkl))).mono fun r w' h => ⟨h.1, h.2.symm⟩
    have HNo2 := hidP (HNo.out k hkl)
    by_cases hs : IsSec l[k]
    · rw [secB_yes hs] at hG
      have HT2 : Hid (∀ j (hj : j < l.length), j < k + 1 → IsSec l[j]) := fun j hj hjk => by
        by_cases hjk2 : j < k
        · exact HT.out j hj hjk2
        · obtain rfl : j = k := by omega
          exact hs
      clear hs HNo2 HT
      generalize l[k] = x at *
      go_wp2_with (go_at_call 51; with_reducible refine (hG _).mono ?_; rintro r w5 ⟨rfl, rfl⟩)
      go_roundw
      case rel => exact ⟨k + 1, by go_num, by omega, by first | rfl | trivial, HT2⟩
      case measure => simp [intOf]; omega
    · rw [secB_no hs] at hG
      have HF : Hid (R = false) := HNo2.out hs
      clear hs HNo2 HT
      generalize l[k] = x at *
      go_wp2_with (go_at_call 51; with_reducible refine (hG _).mono ?_; rintro r w5 ⟨rfl, rfl⟩)
      go_ret
      exact ⟨retY HF.out.symm, rfl⟩
set_option maxRecDepth 100000 in
set_option maxHeartbeats 4000000 in
theorem implSignAll (a : Option Addr) (c n : Nat) (l : List Int) (t : ByteArray) (w : World) (hn : l.length = n) (h : AI w a l) (hb : n ≤ maxLen) (ht : t.size ≤ maxLen) (hw : ∀ x ∈ l, I64 x) (ha : ArrU w 0 keys) (h0 : 0 < w.heap.size) :
    Calls Tryd.prog 15 #[.slice a n c, .string t] w fun r w' => ∃ v, r = .returned (.agg #[.string (saT l t), v]) ∧ Below w.heap.size w w' ∧ OwnSg w' w.heap.size v (saL l t) := by
  unfold maxLen at hb ht
  have HN : Hid (l.length = n) := hn
  have HA : Hid (AI w a l) := h
  have HW : Hid (∀ x ∈ l, I64 x) := hw
  have HKs : Hid (ArrU w 0 keys) := ha
  have HLg : Hid (¬ (l.length ≤ 16 ∧ t.size ≤ 8000) → saB l t = false) := saB_long
  have HAl : Hid ((l.length ≤ 16 ∧ t.size ≤ 8000) → saB l t = l.all secB) := saB_all
  clear hn h hw ha
  by_cases c1 : 16 < n
  · have d1 : decide ((16 : Int) < (n : Int)) = true := decide_eq_true (by omega)
    have HNo : Hid (saB l t = false) := HLg.out (by have := HN.out; omega)
    go_enter Tryd.func15, Tryd.ntmps15
    go_wp2_with (first
      | (with_reducible refine wpList_allocV (w := w) (by with_unfolding_all rfl) 35 (by with_unfolding_all rfl) (sgv ⟨#[]⟩ none 0 0) Tryd.infoSd ?_; intro w1 hA1 hB1 hS1)
      | (with_reducible refine wpList_storeH (w := w1) (by with_unfolding_all rfl) 35 (.tmp 4) (.tmp 21) (by with_unfolding_all rfl) w.heap.size (sgv ⟨#[]⟩ none 0 0) (sgv ⟨#[]⟩ none 0 0) (by with_unfolding_all rfl) (by with_unfolding_all rfl) hA1 2 Tryd.sizeSd (by with_unfolding_all rfl) (by with_unfolding_all rfl) (sgv_one _ _ _ _) ?_; intro w5 hA5 hB5 hF5 hS5))
    exact bodyPost_ret (results_V (t := 35) rfl _ w.heap.size _ rfl hA5 Tryd.undSd 2 Tryd.sizeSd rfl) rfl ⟨_, saRet HNo.out, (hB1.trans (hB5 _ (Nat.le_refl _))), saOwn HNo.out⟩
  have d1 : decide ((16 : Int) < (n : Int)) = false := decide_eq_false (by omega)
  by_cases c2 : 8000 < t.size
  · have d2 : decide ((8000 : Int) < (t.size : Int)) = true := decide_eq_true (by omega)
    have HNo : Hid (saB l t = false) := HLg.out (by omega)
    go_enter Tryd.func15, Tryd.ntmps15
    go_wp2_with (first
      | (with_reducible refine wpList_allocV (w := w) (by with_unfolding_all rfl) 35 (by with_unfolding_all rfl) (sgv ⟨#[]⟩ none 0 0) Tryd.infoSd ?_; intro w1 hA1 hB1 hS1)
      | (with_reducible refine wpList_storeH (w := w1) (by with_unfolding_all rfl) 35 (.tmp 4) (.tmp 21) (by with_unfolding_all rfl) w.heap.size (sgv ⟨#[]⟩ none 0 0) (sgv ⟨#[]⟩ none 0 0) (by with_unfolding_all rfl) (by with_unfolding_all rfl) hA1 2 Tryd.sizeSd (by with_unfolding_all rfl) (by with_unfolding_all rfl) (sgv_one _ _ _ _) ?_; intro w5 hA5 hB5 hF5 hS5))
    exact bodyPost_ret (results_V (t := 35) rfl _ w.heap.size _ rfl hA5 Tryd.undSd 2 Tryd.sizeSd rfl) rfl ⟨_, saRet HNo.out, (hB1.trans (hB5 _ (Nat.le_refl _))), saOwn HNo.out⟩
  have d2 : decide ((8000 : Int) < (t.size : Int)) = false := decide_eq_false (by omega)
  have HBe : Hid (saB l t = l.all secB) := HAl.out (by have := HN.out; omega)
  have hR : ∀ w0, Below w.heap.size w w0 → Calls Tryd.prog 33 #[.slice a n c] w0 fun r w' => r = .returned (.bool (l.all secB)) ∧ w0 = w' := fun w0 hb0 => (implSecs a c n l w0 HN.out (HA.out.below hb0) (by omega) HW.out).mono fun r w' h => ⟨h.1, h.2.symm⟩
  cases hq : l.all secB with
  | false =>
    have HNo : Hid (saB l t = false) := by show _ = _; rw [HBe.out, hq]
    rw [hq] at hR
    clear HBe hq
    go_enter Tryd.func15, Tryd.ntmps15
    go_wp2_with (first
      | (with_reducible refine wpList_allocV (w := w) (by with_unfolding_all rfl) 35 (by with_unfolding_all rfl) (sgv ⟨#[]⟩ none 0 0) Tryd.infoSd ?_; intro w1 hA1 hB1 hS1)
      | (go_at_call 33; with_reducible refine (hR w1 hB1).mono ?_; rintro r w' ⟨rfl, rfl⟩)
      | (with_reducible refine wpList_storeH (w := w1) (by with_unfolding_all rfl) 35 (.tmp 4) (.tmp 21) (by with_unfolding_all rfl) w.heap.size (sgv ⟨#[]⟩ none 0 0) (sgv ⟨#[]⟩ none 0 0) (by with_unfolding_all rfl) (by with_unfolding_all rfl) hA1 2 Tryd.sizeSd (by with_unfolding_all rfl) (by with_unfolding_all rfl) (sgv_one _ _ _ _) ?_; intro w5 hA5 hB5 hF5 hS5))
    exact bodyPost_ret (results_V (t := 35) rfl _ w.heap.size _ rfl hA5 Tryd.undSd 2 Tryd.sizeSd rfl) rfl ⟨_, saRet HNo.out, (hB1.trans (hB5 _ (Nat.le_refl _))), saOwn HNo.out⟩
  | true =>
  have HYes : Hid (saB l t = true) := by show _ = _; rw [HBe.out, hq]
  have HSec : Hid (∀ x ∈ l, IsSec x) := fun x hx => of_decide_eq_true (List.all_eq_true.1 hq x hx)
  rw [hq] at hR
  clear HBe hq HLg HAl
  have hO : ∀ w0, Calls Tryd.prog 34 #[.string t] w0 fun e w' => e = .returned (.string t) ∧ Below w0.heap.size w0 w' := fun w0 => ownText_any t w0
  go_enter Tryd.func15, Tryd.ntmps15
  go_wp2_with (first
    | (with_reducible refine wpList_allocV (w := w) (by with_unfolding_all rfl) 35 (by with_unfolding_all rfl) (sgv ⟨#[]⟩ none 0 0) Tryd.infoSd ?_; intro w1 hA1 hB1 hS1)
    | (go_at_call 33; with_reducible refine (hR w1 hB1).mono ?_; rintro r w' ⟨rfl, rfl⟩)
    | (go_at_call 34; with_reducible refine (hO w1).mono ?_; rintro r w2 ⟨rfl, hB2⟩; have R2 := hA1.below hB2 (by omega); have z2 := hB2.size)
    | (with_reducible refine wpList_allocV (w := w2) (by with_unfolding_all rfl) 35 (by with_unfolding_all rfl) (sgv ⟨#[]⟩ none 0 0) Tryd.infoSd ?_; intro w3 hA3 hB3 hS3; have R3 := R2.below hB3 (by omega))
    | (with_reducible refine wpList_storeH (w := w3) (by with_unfolding_all rfl) 35 (.tmp 5) (.tmp 24) (by with_unfolding_all rfl) w2.heap.size (sgv ⟨#[]⟩ none 0 0) (sgv t none 0 0) (by with_unfolding_all rfl) (by with_unfolding_all rfl) hA3 2 Tryd.sizeSd (by with_unfolding_all rfl) (by with_unfolding_all rfl) (sgv_one _ _ _ _) ?_; intro w4 hA4 hB4 hF4 hS4; have R4 := (Only.set hB4 hF4 hS4).row R3 (sgv_ne _ _ _ _) (by omega)))
  have HS0 := KpSa.start (((hB1.trans (hB2.mono (by omega))).trans (hB3.mono (by omega))).trans (hB4 _ (by omega))) R4 hA4 (Nat.le_refl _) (show w.heap.size < w2.heap.size by omega) (by omega)
  clear R2 R3 R4 hA1 hA3 hA4 hB1 hB2 hB3 hB4 hF4 hR hO d1 d2
  generalize w4.heap.size = B at *
  generalize w2.heap.size = GA at *
  go_loopw [27] (fun vi wr => ∃ (k : Nat) (v : Value) (m : List SigV), vi = .int .i64 (k : Int) ∧ k ≤ n ∧ Hid (m = (l.take k).map (sgnV t)) ∧ Hid (KpSa w w.heap.size GA B t v m wr)) (fun vi _ => n - (intOf vi).toNat)
  case atStart => exact ⟨0, .slice none 0 0, [], rfl, Nat.zero_le _, rfl, HS0⟩
  case round =>
    clear HS0
    obtain ⟨k, v, m, rfl, hk, HM, HS⟩ := hrel
    by_cases hlt : k < n
    case neg =>
      obtain rfl : k = n := by omega
      obtain ⟨a2, cc2, rfl, -⟩ := OwnSg.form HS.out.own
      have HMe : Hid (m = saL l t) := by show _ = _; rw [HM.out, (saT_yes HYes.out).2, ← HN.out, List.take_length]
      have R5 : RowV wr GA (sgv t a2 m.length cc2) := KpSa.r5H HS
      go_wp2_with (first
        | (with_reducible refine wpList_loadV (w := wr) (by with_unfolding_all rfl) 35 (.tmp 5) (by with_unfolding_all rfl) GA (sgv t a2 m.length cc2) (by with_unfolding_all rfl) R5 Tryd.undSd 2 Tryd.sizeSd (by with_unfolding_all rfl) ?_)
        | (with_reducible refine wpList_storeH (w := wr) (by with_unfolding_all rfl) 35 (.tmp 4) (.tmp 40) (by with_unfolding_all rfl) w.heap.size (sgv ⟨#[]⟩ none 0 0) (sgv t a2 m.length cc2) (by with_unfolding_all rfl) (by with_unfolding_all rfl) (KpSa.r2H HS) 2 Tryd.sizeSd (by with_unfolding_all rfl) (by with_unfolding_all rfl) (sgv_one _ _ _ _) ?_; intro wz hAz hBz hFz hSz; have HE := KpSa.done HS (Only.set hBz hFz hSz)))
      exact bodyPost_ret (results_V (t := 35) rfl _ w.heap.size _ rfl hAz Tryd.undSd 2 Tryd.sizeSd rfl) rfl ⟨_, saRet1 HYes.out, HE.1, HMe.out ▸ HE.2⟩
    have hkl : k < l.length := by have := HN.out; omega
    obtain ⟨b, o, rfl, hc⟩ := (HA.out.below HS.out.bel) k hkl
    have lk : (k : Int) < n := by omega
    have l0 : (0 : Int) ≤ k := by omega
    have hm1000 : m.length ≤ 1000 := by rw [HM.out, List.length_map, List.length_take]; omega
    have hx := HW.out _ (List.getElem_mem hkl)
    have hs := HSec.out _ (List.getElem_mem hkl)
    have hSg : ∀ w0 v0 m0, Hid (KpSa w w.heap.size GA B t v0 m0 w0) → Calls Tryd.prog 35 #[.int .i64 l[k], .string t] w0 fun r w' => r = .returned (.agg #[.int .i64 (powM 4 l[k] 2147483579), .int .i64 (eM l[k] t), .int .i64 (sM l[k] t)]) ∧ Below w0.heap.size w0 w' := fun w0 v0 m0 hh => implSign l[k] t w0 hx hs (by omega) (HKs.out.below hh.out.bel h0) (Nat.lt_of_lt_of_le h0 hh.out.bel.size)
    have HMn : Hid (m ++ [(⟨powM 4 l[k] 2147483579, eM l[k] t, sM l[k] t⟩ : SigV)] = (l.take (k + 1)).map (sgnV t)) := by show _ = _; rw [HM.out]; exact take_next (sgnV t) hkl
    clear hx hs HM
    generalize powM 4 l[k] 2147483579 = Y at *
    generalize eM l[k] t = E at *
    generalize sM l[k] t = Z at *
    generalize l[k] = x at *
    go_wp2_with fail
    refine wp_region_held_drew (S := fun _ => True) (by kernel_rfl) trivial (fun hHeld => ?_)
    refine wpAnyH_take (i := 0) (oi := ⟨_, _, _, _, _, _⟩) (v := .pointer (some ⟨GA, 1, none⟩)) rfl (by kernel_rfl) (by kernel_rfl) (by kernel_rfl) (fun _ _ _ h => h) (Or.inl ⟨wanted_free rfl, fun w' hSw => ?_⟩) trivial ?_
    · go_simp
    try simp only [Act.put, List.setIfInBounds_toArray, List.set_cons_zero, List.set_cons_succ]
    refine wpAnyH_take (i := 2) (oi := ⟨_, _, _, _, _, _⟩) (v := .int .i64 x) rfl (by kernel_rfl) (by kernel_rfl) (by kernel_rfl) (fun _ _ _ h => h) (Or.inl ⟨wanted_free rfl, fun w' hSw => ?_⟩) trivial ?_
    · go_simp
    try simp only [Act.put, List.setIfInBounds_toArray, List.set_cons_zero, List.set_cons_succ]
    refine wpAnyH_take (i := 3) (oi := ⟨_, _, _, _, _, _⟩) (v := .string t) rfl (by kernel_rfl) (by kernel_rfl) (by kernel_rfl) (fun _ _ _ h => h) (Or.inl ⟨wanted_free rfl, fun w' hSw => ?_⟩) trivial ?_
    · go_simp
    try simp only [Act.put, List.setIfInBounds_toArray, List.set_cons_zero, List.set_cons_succ]
    have HSW := KpSa.drew HS
    generalize wr.drew = W at *
    clear HS
    refine wpAnyH_ready (rs := [1, 4]) (by kernel_rfl) (by simp) (AllReadyH.cons (o := ⟨_, _, _, _, _, _⟩) rfl (fun K hK => ?_) (AllReadyH.cons (o := ⟨_, _, _, _, _, _⟩) rfl (fun K hK => ?_) AllReadyH.nil))
    · as_aux_lemma =>
      rewrite [if_pos (wanted_free rfl)]
      with_reducible refine wp_load1 33 57 (.tmp 31) (by with_unfolding_all rfl) GA 1 v (by with_unfolding_all rfl) (KpSa.cell HSW).2 Tryd.underlying33 ?_
      refine hK.out _ _ trivial (fun _ => ?_)
      clear hK K
      try simp only [Act.put, List.setIfInBounds_toArray, List.set_cons_zero, List.set_cons_succ]
      refine wpAnyH_ready (rs := [4]) (by kernel_rfl) (by simp) (AllReadyH.cons (o := ⟨_, _, _, _, _, _⟩) rfl (fun K hK => ?_) AllReadyH.nil)
      rewrite [if_pos (wanted_free rfl)]
      go_simp
      refine (hSg W v m HSW).mono ?_
      rintro e Wc ⟨rfl, hBWc⟩
      have HSWc := KpSa.call HSW hBWc
      go_wp2_with fail
      refine hK.out _ _ trivial (fun _ => ?_)
      clear hK K
      try simp only [Act.put, List.setIfInBounds_toArray, List.set_cons_zero, List.set_cons_succ]
      refine wpAnyH_ready (rs := [5]) (by kernel_rfl) (by simp) (AllReadyH.cons (o := ⟨_, _, _, _, _, _⟩) rfl (fun K hK => ?_) AllReadyH.nil)
      rewrite [if_pos (wanted_free rfl)]
      with_reducible refine wp_buildSg (w := Wc) (.tmp 35) (by with_unfolding_all rfl) Y E Z (by with_unfolding_all rfl) ?_
      intro Wcc hAWcc hBWcc
      have HSWcc := KpSa.call HSWc hBWcc
      refine hK.out _ _ trivial (fun _ => ?_)
      clear hK K
      try simp only [Act.put, List.setIfInBounds_toArray, List.set_cons_zero, List.set_cons_succ]
      refine wpAnyH_ready (rs := [6]) (by kernel_rfl) (by simp) (AllReadyH.cons (o := ⟨_, _, _, _, _, _⟩) rfl (fun K hK => ?_) AllReadyH.nil)
      rewrite [if_pos (wanted_free rfl)]
      with_reducible refine wp_appendSg (W := Wcc) (.tmp 32) (.tmp 36) (by with_unfolding_all rfl) B v m ⟨Y, E, Z⟩ (by with_unfolding_all rfl) HSWcc.out.own Wc.heap.size (by with_unfolding_all rfl) hAWcc hm1000 HSWcc.out.sz ?_
      intro v2 wa hOa hGa hba
      have RA := KpSa.r5g HSWcc hGa
      refine hK.out _ _ trivial (fun _ => ?_)
      clear hK K
      try simp only [Act.put, List.setIfInBounds_toArray, List.set_cons_zero, List.set_cons_succ]
      refine wpAnyH_take (i := 7) (oi := ⟨_, _, _, _, _, _⟩) (v := .pointer (some ⟨GA, 1, none⟩)) rfl (by kernel_rfl) (by kernel_rfl) (by kernel_rfl) (fun _ _ _ h => h) (Or.inl ⟨wanted_free rfl, fun w' hSw => ?_⟩) trivial ?_
      · go_simp
      try simp only [Act.put, List.setIfInBounds_toArray, List.set_cons_zero, List.set_cons_succ]
      obtain ⟨a2, cc2, rfl, -⟩ := OwnSg.form hOa
      refine wpAnyH_ready (rs := [8]) (by kernel_rfl) (by simp) (AllReadyH.cons (o := ⟨_, _, _, _, _, _⟩) rfl (fun K hK => ?_) AllReadyH.nil)
      rewrite [if_pos (wanted_free rfl)]
      with_reducible refine wp_cellO 33 (.tmp 38) (.tmp 37) (by with_unfolding_all rfl) GA 1 (sdw t v) (sdw t (.slice a2 (m ++ [(⟨Y, E, Z⟩ : SigV)]).length cc2)) (.slice a2 (m ++ [(⟨Y, E, Z⟩ : SigV)]).length cc2) (by with_unfolding_all rfl) (by with_unfolding_all rfl) rfl Tryd.size1Sgs RA (by simp [sdw]) (by with_unfolding_all rfl) ?_
      intro wz hAz hOz
      have HSz := KpSa.put HSWcc hOa hGa hAz hOz
      refine hK.out _ _ trivial (fun _ => ?_)
      clear hK K
      refine wpAnyH_done (by kernel_rfl) ?_ _
      clear HSW HSWc HSWcc
      go_wp2
      go_roundw
      case rel => exact ⟨k + 1, _, _, by go_num, by omega, HMn, HSz⟩
      case measure => simp [intOf]; omega
    · as_aux_lemma =>
      rewrite [if_pos (wanted_free rfl)]
      go_simp
      refine (hSg W v m HSW).mono ?_
      rintro e Wc ⟨rfl, hBWc⟩
      have HSWc := KpSa.call HSW hBWc
      go_wp2_with fail
      refine hK.out _ _ trivial (fun _ => ?_)
      clear hK K
      try simp only [Act.put, List.setIfInBounds_toArray, List.set_cons_zero, List.set_cons_succ]
      refine wpAnyH_ready (rs := [1, 5]) (by kernel_rfl) (by simp) (AllReadyH.cons (o := ⟨_, _, _, _, _, _⟩) rfl (fun K hK => ?_) (AllReadyH.cons (o := ⟨_, _, _, _, _, _⟩) rfl (fun K hK => ?_) AllReadyH.nil))
      · as_aux_lemma =>
        rewrite [if_pos (wanted_free rfl)]
        with_reducible refine wp_load1 33 57 (.tmp 31) (by with_unfolding_all rfl) GA 1 v (by with_unfolding_all rfl) (KpSa.cell HSWc).2 Tryd.underlying33 ?_
        refine hK.out _ _ trivial (fun _ => ?_)
        clear hK K
        try simp only [Act.put, List.setIfInBounds_toArray, List.set_cons_zero, List.set_cons_succ]
        refine wpAnyH_ready (rs := [5]) (by kernel_rfl) (by simp) (AllReadyH.cons (o := ⟨_, _, _, _, _, _⟩) rfl (fun K hK => ?_) AllReadyH.nil)
        rewrite [if_pos (wanted_free rfl)]
        with_reducible refine wp_buildSg (w := Wc) (.tmp 35) (by with_unfolding_all rfl) Y E Z (by with_unfolding_all rfl) ?_
        intro Wcc hAWcc hBWcc
        have HSWcc := KpSa.call HSWc hBWcc
        refine hK.out _ _ trivial (fun _ => ?_)
        clear hK K
        try simp only [Act.put, List.setIfInBounds_toArray, List.set_cons_zero, List.set_cons_succ]
        refine wpAnyH_ready (rs := [6]) (by kernel_rfl) (by simp) (AllReadyH.cons (o := ⟨_, _, _, _, _, _⟩) rfl (fun K hK => ?_) AllReadyH.nil)
        rewrite [if_pos (wanted_free rfl)]
        with_reducible refine wp_appendSg (W := Wcc) (.tmp 32) (.tmp 36) (by with_unfolding_all rfl) B v m ⟨Y, E, Z⟩ (by with_unfolding_all rfl) HSWcc.out.own Wc.heap.size (by with_unfolding_all rfl) hAWcc hm1000 HSWcc.out.sz ?_
        intro v2 wa hOa hGa hba
        have RA := KpSa.r5g HSWcc hGa
        refine hK.out _ _ trivial (fun _ => ?_)
        clear hK K
        try simp only [Act.put, List.setIfInBounds_toArray, List.set_cons_zero, List.set_cons_succ]
        refine wpAnyH_take (i := 7) (oi := ⟨_, _, _, _, _, _⟩) (v := .pointer (some ⟨GA, 1, none⟩)) rfl (by kernel_rfl) (by kernel_rfl) (by kernel_rfl) (fun _ _ _ h => h) (Or.inl ⟨wanted_free rfl, fun w' hSw => ?_⟩) trivial ?_
        · go_simp
        try simp only [Act.put, List.setIfInBounds_toArray, List.set_cons_zero, List.set_cons_succ]
        obtain ⟨a2, cc2, rfl, -⟩ := OwnSg.form hOa
        refine wpAnyH_ready (rs := [8]) (by kernel_rfl) (by simp) (AllReadyH.cons (o := ⟨_, _, _, _, _, _⟩) rfl (fun K hK => ?_) AllReadyH.nil)
        rewrite [if_pos (wanted_free rfl)]
        with_reducible refine wp_cellO 33 (.tmp 38) (.tmp 37) (by with_unfolding_all rfl) GA 1 (sdw t v) (sdw t (.slice a2 (m ++ [(⟨Y, E, Z⟩ : SigV)]).length cc2)) (.slice a2 (m ++ [(⟨Y, E, Z⟩ : SigV)]).length cc2) (by with_unfolding_all rfl) (by with_unfolding_all rfl) rfl Tryd.size1Sgs RA (by simp [sdw]) (by with_unfolding_all rfl) ?_
        intro wz hAz hOz
        have HSz := KpSa.put HSWcc hOa hGa hAz hOz
        refine hK.out _ _ trivial (fun _ => ?_)
        clear hK K
        refine wpAnyH_done (by kernel_rfl) ?_ _
        clear HSW HSWc HSWcc
        go_wp2
        go_roundw
        case rel => exact ⟨k + 1, _, _, by go_num, by omega, HMn, HSz⟩
        case measure => simp [intOf]; omega
      · as_aux_lemma =>
        rewrite [if_pos (wanted_free rfl)]
        with_reducible refine wp_buildSg (w := Wc) (.tmp 35) (by with_unfolding_all rfl) Y E Z (by with_unfolding_all rfl) ?_
        intro Wcc hAWcc hBWcc
        have HSWcc := KpSa.call HSWc hBWcc
        refine hK.out _ _ trivial (fun _ => ?_)
        clear hK K
        try simp only [Act.put, List.setIfInBounds_toArray, List.set_cons_zero, List.set_cons_succ]
        refine wpAnyH_ready (rs := [1]) (by kernel_rfl) (by simp) (AllReadyH.cons (o := ⟨_, _, _, _, _, _⟩) rfl (fun K hK => ?_) AllReadyH.nil)
        rewrite [if_pos (wanted_free rfl)]
        with_reducible refine wp_load1 33 57 (.tmp 31) (by with_unfolding_all rfl) GA 1 v (by with_unfolding_all rfl) (KpSa.cell HSWcc).2 Tryd.underlying33 ?_
        refine hK.out _ _ trivial (fun _ => ?_)
        clear hK K
        try simp only [Act.put, List.setIfInBounds_toArray, List.set_cons_zero, List.set_cons_succ]
        refine wpAnyH_ready (rs := [6]) (by kernel_rfl) (by simp) (AllReadyH.cons (o := ⟨_, _, _, _, _, _⟩) rfl (fun K hK => ?_) AllReadyH.nil)
        rewrite [if_pos (wanted_free rfl)]
        with_reducible refine wp_appendSg (W := Wcc) (.tmp 32) (.tmp 36) (by with_unfolding_all rfl) B v m ⟨Y, E, Z⟩ (by with_unfolding_all rfl) HSWcc.out.own Wc.heap.size (by with_unfolding_all rfl) hAWcc hm1000 HSWcc.out.sz ?_
        intro v2 wa hOa hGa hba
        have RA := KpSa.r5g HSWcc hGa
        refine hK.out _ _ trivial (fun _ => ?_)
        clear hK K
        try simp only [Act.put, List.setIfInBounds_toArray, List.set_cons_zero, List.set_cons_succ]
        refine wpAnyH_take (i := 7) (oi := ⟨_, _, _, _, _, _⟩) (v := .pointer (some ⟨GA, 1, none⟩)) rfl (by kernel_rfl) (by kernel_rfl) (by kernel_rfl) (fun _ _ _ h => h) (Or.inl ⟨wanted_free rfl, fun w' hSw => ?_⟩) trivial ?_
        · go_simp
        try simp only [Act.put, List.setIfInBounds_toArray, List.set_cons_zero, List.set_cons_succ]
        obtain ⟨a2, cc2, rfl, -⟩ := OwnSg.form hOa
        refine wpAnyH_ready (rs := [8]) (by kernel_rfl) (by simp) (AllReadyH.cons (o := ⟨_, _, _, _, _, _⟩) rfl (fun K hK => ?_) AllReadyH.nil)
        rewrite [if_pos (wanted_free rfl)]
        with_reducible refine wp_cellO 33 (.tmp 38) (.tmp 37) (by with_unfolding_all rfl) GA 1 (sdw t v) (sdw t (.slice a2 (m ++ [(⟨Y, E, Z⟩ : SigV)]).length cc2)) (.slice a2 (m ++ [(⟨Y, E, Z⟩ : SigV)]).length cc2) (by with_unfolding_all rfl) (by with_unfolding_all rfl) rfl Tryd.size1Sgs RA (by simp [sdw]) (by with_unfolding_all rfl) ?_
        intro wz hAz hOz
        have HSz := KpSa.put HSWcc hOa hGa hAz hOz
        refine hK.out _ _ trivial (fun _ => ?_)
        clear hK K
        refine wpAnyH_done (by kernel_rfl) ?_ _
        clear HSW HSWc HSWcc
        go_wp2
        go_roundw
        case rel => exact ⟨k + 1, _, _, by go_num, by omega, HMn, HSz⟩
        case measure => simp [intOf]; omega
end Go.Proofs.YtmahpmjkejnkfaaDoor
namespace Go.Proofs.YtmahpmjkejnkfaaDoor
open Go.RowKit
set_option linter.unusedVariables false

set_option maxRecDepth 100000 in
set_option maxHeartbeats 4000000 in
theorem specSignAll (a : Option Addr) (c n : Nat) (l : List Int) (t : ByteArray) (w : World) (hn : l.length = n) (h : AI w a l) (hb : n ≤ maxLen) (ht : t.size ≤ maxLen) (hw : ∀ x ∈ l, I64 x) (ha : ArrU w 0 keys) (h0 : 0 < w.heap.size) :
    Calls Tryd.prog 13 #[.slice a n c, .string t] w fun r w' => ∃ v, r = .returned (.agg #[.string (saT l t), v]) ∧ Below w.heap.size w w' ∧ OwnSg w' w.heap.size v (saL l t) := by
  unfold maxLen at hb ht
  have HN : Hid (l.length = n) := hn
  have HA : Hid (AI w a l) := h
  have HW : Hid (∀ x ∈ l, I64 x) := hw
  have HKs : Hid (ArrU w 0 keys) := ha
  have HLg : Hid (¬ (l.length ≤ 16 ∧ t.size ≤ 8000) → saB l t = false) := saB_long
  have HAl : Hid ((l.length ≤ 16 ∧ t.size ≤ 8000) → saB l t = l.all secB) := saB_all
  clear hn h hw ha
  by_cases cd0 : 400 < n
  · have d0 : decide ((400 : Int) < (n : Int)) = true := decide_eq_true (by omega)
    have HNo : Hid (saB l t = false) := HLg.out (by have := HN.out; omega)
    go_enter Tryd.func13, Tryd.ntmps13
    go_wp2_with (first
      | (with_reducible refine wpList_allocV (w := w) (by with_unfolding_all rfl) 35 (by with_unfolding_all rfl) (sgv ⟨#[]⟩ none 0 0) Tryd.infoSd ?_; intro w1 hA1 hB1 hS1)
      | (with_reducible refine wpList_storeH (w := w1) (by with_unfolding_all rfl) 35 (.tmp 4) (.tmp 25) (by with_unfolding_all rfl) w.heap.size (sgv ⟨#[]⟩ none 0 0) (sgv ⟨#[]⟩ none 0 0) (by with_unfolding_all rfl) (by with_unfolding_all rfl) hA1 2 Tryd.sizeSd (by with_unfolding_all rfl) (by with_unfolding_all rfl) (sgv_one _ _ _ _) ?_; intro w5 hA5 hB5 hF5 hS5))
    exact bodyPost_ret (results_V (t := 35) rfl _ w.heap.size _ rfl hA5 Tryd.undSd 2 Tryd.sizeSd rfl) rfl ⟨_, saRet HNo.out, (hB1.trans (hB5 _ (Nat.le_refl _))), saOwn HNo.out⟩
  have d0 : decide ((400 : Int) < (n : Int)) = false := decide_eq_false (by omega)
  by_cases cd1 : 20000 < t.size
  · have d1 : decide ((20000 : Int) < (t.size : Int)) = true := decide_eq_true (by omega)
    have HNo : Hid (saB l t = false) := HLg.out (by omega)
    go_enter Tryd.func13, Tryd.ntmps13
    go_wp2_with (first
      | (with_reducible refine wpList_allocV (w := w) (by with_unfolding_all rfl) 35 (by with_unfolding_all rfl) (sgv ⟨#[]⟩ none 0 0) Tryd.infoSd ?_; intro w1 hA1 hB1 hS1)
      | (with_reducible refine wpList_storeH (w := w1) (by with_unfolding_all rfl) 35 (.tmp 4) (.tmp 25) (by with_unfolding_all rfl) w.heap.size (sgv ⟨#[]⟩ none 0 0) (sgv ⟨#[]⟩ none 0 0) (by with_unfolding_all rfl) (by with_unfolding_all rfl) hA1 2 Tryd.sizeSd (by with_unfolding_all rfl) (by with_unfolding_all rfl) (sgv_one _ _ _ _) ?_; intro w5 hA5 hB5 hF5 hS5))
    exact bodyPost_ret (results_V (t := 35) rfl _ w.heap.size _ rfl hA5 Tryd.undSd 2 Tryd.sizeSd rfl) rfl ⟨_, saRet HNo.out, (hB1.trans (hB5 _ (Nat.le_refl _))), saOwn HNo.out⟩
  have d1 : decide ((20000 : Int) < (t.size : Int)) = false := decide_eq_false (by omega)
  by_cases cd2 : 16 < n
  · have d2 : decide ((16 : Int) < (n : Int)) = true := decide_eq_true (by omega)
    have HNo : Hid (saB l t = false) := HLg.out (by have := HN.out; omega)
    go_enter Tryd.func13, Tryd.ntmps13
    go_wp2_with (first
      | (with_reducible refine wpList_allocV (w := w) (by with_unfolding_all rfl) 35 (by with_unfolding_all rfl) (sgv ⟨#[]⟩ none 0 0) Tryd.infoSd ?_; intro w1 hA1 hB1 hS1)
      | (with_reducible refine wpList_storeH (w := w1) (by with_unfolding_all rfl) 35 (.tmp 4) (.tmp 25) (by with_unfolding_all rfl) w.heap.size (sgv ⟨#[]⟩ none 0 0) (sgv ⟨#[]⟩ none 0 0) (by with_unfolding_all rfl) (by with_unfolding_all rfl) hA1 2 Tryd.sizeSd (by with_unfolding_all rfl) (by with_unfolding_all rfl) (sgv_one _ _ _ _) ?_; intro w5 hA5 hB5 hF5 hS5))
    exact bodyPost_ret (results_V (t := 35) rfl _ w.heap.size _ rfl hA5 Tryd.undSd 2 Tryd.sizeSd rfl) rfl ⟨_, saRet HNo.out, (hB1.trans (hB5 _ (Nat.le_refl _))), saOwn HNo.out⟩
  have d2 : decide ((16 : Int) < (n : Int)) = false := decide_eq_false (by omega)
  by_cases cd3 : 8000 < t.size
  · have d3 : decide ((8000 : Int) < (t.size : Int)) = true := decide_eq_true (by omega)
    have HNo : Hid (saB l t = false) := HLg.out (by omega)
    go_enter Tryd.func13, Tryd.ntmps13
    go_wp2_with (first
      | (with_reducible refine wpList_allocV (w := w) (by with_unfolding_all rfl) 35 (by with_unfolding_all rfl) (sgv ⟨#[]⟩ none 0 0) Tryd.infoSd ?_; intro w1 hA1 hB1 hS1)
      | (with_reducible refine wpList_storeH (w := w1) (by with_unfolding_all rfl) 35 (.tmp 4) (.tmp 25) (by with_unfolding_all rfl) w.heap.size (sgv ⟨#[]⟩ none 0 0) (sgv ⟨#[]⟩ none 0 0) (by with_unfolding_all rfl) (by with_unfolding_all rfl) hA1 2 Tryd.sizeSd (by with_unfolding_all rfl) (by with_unfolding_all rfl) (sgv_one _ _ _ _) ?_; intro w5 hA5 hB5 hF5 hS5))
    exact bodyPost_ret (results_V (t := 35) rfl _ w.heap.size _ rfl hA5 Tryd.undSd 2 Tryd.sizeSd rfl) rfl ⟨_, saRet HNo.out, (hB1.trans (hB5 _ (Nat.le_refl _))), saOwn HNo.out⟩
  have d3 : decide ((8000 : Int) < (t.size : Int)) = false := decide_eq_false (by omega)
  have HBe : Hid (saB l t = l.all secB) := HAl.out (by have := HN.out; omega)
  clear HLg HAl
  go_enter Tryd.func13, Tryd.ntmps13
  go_wp2_with (first
    | (with_reducible refine wpList_allocV (w := w) (by with_unfolding_all rfl) 35 (by with_unfolding_all rfl) (sgv ⟨#[]⟩ none 0 0) Tryd.infoSd ?_; intro w1 hA1 hB1 hS1; have z1 : w.heap.size < w1.heap.size := (by omega); clear hS1)
    | (with_reducible refine wpList_allocV (w := w1) (by with_unfolding_all rfl) 35 (by with_unfolding_all rfl) (sgv ⟨#[]⟩ none 0 0) Tryd.infoSd ?_; intro w3 hA3 hB3 hS3; have R3 := hA1.below hB3 (by omega); have z3 : w1.heap.size < w3.heap.size := (by omega); clear hS3)
    | (with_reducible refine wpList_storeH (w := w3) (by with_unfolding_all rfl) 35 (.tmp 5) (.tmp 27) (by with_unfolding_all rfl) w1.heap.size (sgv ⟨#[]⟩ none 0 0) (sgv t none 0 0) (by with_unfolding_all rfl) (by with_unfolding_all rfl) hA3 2 Tryd.sizeSd (by with_unfolding_all rfl) (by with_unfolding_all rfl) (sgv_one _ _ _ _) ?_; intro w4 hA4 hB4 hF4 hS4; have R4 := (Only.set hB4 hF4 hS4).row R3 (sgv_ne _ _ _ _) (by omega); have z4 : w1.heap.size < w4.heap.size := (by omega); clear hS4))
  have HS0 := KpSa.start ((hB1.trans (hB3.mono (by omega))).trans (hB4 _ (by omega))) R4 hA4 (Nat.le_refl _) z1 z4
  clear R3 R4 hA1 hA3 hA4 hB1 hB3 hB4 hF4 d0 d1 d2 d3
  generalize w4.heap.size = B at *
  generalize w1.heap.size = GA at *
  go_loopw [6] (fun vi wr => ∃ (k : Nat) (v : Value) (m : List SigV), vi = .int .i64 (k : Int) ∧ k ≤ n ∧ Hid (m = (l.take k).map (sgnV t)) ∧ Hid (∀ j (hj : j < l.length), j < k → IsSec l[j]) ∧ Hid (KpSa w w.heap.size GA B t v m wr)) (fun vi _ => n - (intOf vi).toNat)
  case atStart => exact ⟨0, .slice none 0 0, [], rfl, Nat.zero_le _, rfl, fun j hj h0 => absurd h0 (Nat.not_lt_zero _), HS0⟩
  case round =>
    clear HS0
    obtain ⟨k, v, m, rfl, hk, HM, HT, HS⟩ := hrel
    by_cases hlt : k < n
    case neg =>
      obtain rfl : k = n := by omega
      have HYes : Hid (saB l t = true) := by show _ = _; rw [HBe.out]; exact secs_yes (fun j hj => HT.out j hj (by have := HN.out; omega))
      obtain ⟨a2, cc2, rfl, -⟩ := OwnSg.form HS.out.own
      have HMe : Hid (m = saL l t) := by show _ = _; rw [HM.out, (saT_yes HYes.out).2, ← HN.out, List.take_length]
      have R5 : RowV wr GA (sgv t a2 m.length cc2) := KpSa.r5H HS
      go_wp2_with (first
        | (with_reducible refine wpList_loadV (w := wr) (by with_unfolding_all rfl) 35 (.tmp 5) (by with_unfolding_all rfl) GA (sgv t a2 m.length cc2) (by with_unfolding_all rfl) R5 Tryd.undSd 2 Tryd.sizeSd (by with_unfolding_all rfl) ?_)
        | (with_reducible refine wpList_storeH (w := wr) (by with_unfolding_all rfl) 35 (.tmp 4) (.tmp 52) (by with_unfolding_all rfl) w.heap.size (sgv ⟨#[]⟩ none 0 0) (sgv t a2 m.length cc2) (by with_unfolding_all rfl) (by with_unfolding_all rfl) (KpSa.r2H HS) 2 Tryd.sizeSd (by with_unfolding_all rfl) (by with_unfolding_all rfl) (sgv_one _ _ _ _) ?_; intro wz hAz hBz hFz hSz; have HE := KpSa.done HS (Only.set hBz hFz hSz)))
      exact bodyPost_ret (results_V (t := 35) rfl _ w.heap.size _ rfl hAz Tryd.undSd 2 Tryd.sizeSd rfl) rfl ⟨_, saRet1 HYes.out, HE.1, HMe.out ▸ HE.2⟩
    have hkl : k < l.length := by have := HN.out; omega
    obtain ⟨b, o, rfl, hc0⟩ := HA.out k hkl
    have HX : Hid (b < w.heap.size) := cellLt hc0
    have HAI : Hid (AI w (some ⟨b, o, none⟩) l) := HA
    have lk : (k : Int) < n := by omega
    have l0 : (0 : Int) ≤ k := by omega
    have hm1000 : m.length ≤ 1000 := by rw [HM.out, List.length_map, List.length_take]; omega
    have hx := HW.out _ (List.getElem_mem hkl)
    have hc : wr.cell? ⟨b, o + k, none⟩ = some (.int .i64 l[k]) := sec_at (x := l[k]) HAI HS (hidP ⟨hkl, rfl⟩)
    clear hc0
    have hG : ∀ w0, Calls Tryd.prog 31 #[.int .i64 l[k]] w0 fun r w' => r = .returned (.bool (secB l[k])) ∧ w0 = w' := fun w0 => (specSec l[k] w0 hx).mono fun r w' h => ⟨h.1, h.2.symm⟩
    by_cases hs : IsSec l[k]
    case neg =>
      have HNo : Hid (saB l t = false) := by show _ = _; rw [HBe.out]; exact secs_no hkl hs
      rw [secB_no hs] at hG
      clear hs hx HM HT HBe
      generalize l[k] = x at *
      go_wp2_with (first
        | (go_at_call 31; with_reducible refine (hG _).mono ?_; rintro r w' ⟨rfl, rfl⟩)
        | (with_reducible refine wpList_storeH (w := wr) (by with_unfolding_all rfl) 35 (.tmp 4) (.tmp 40) (by with_unfolding_all rfl) w.heap.size (sgv ⟨#[]⟩ none 0 0) (sgv ⟨#[]⟩ none 0 0) (by with_unfolding_all rfl) (by with_unfolding_all rfl) (KpSa.r2H HS) 2 Tryd.sizeSd (by with_unfolding_all rfl) (by with_unfolding_all rfl) (sgv_one _ _ _ _) ?_; intro wz hAz hBz hFz hSz; have HE := KpSa.done HS (Only.set hBz hFz hSz)))
      exact bodyPost_ret (results_V (t := 35) rfl _ w.heap.size _ rfl hAz Tryd.undSd 2 Tryd.sizeSd rfl) rfl ⟨_, saRet HNo.out, HE.1, saOwn HNo.out⟩
    have hSg : ∀ w0, Calls Tryd.prog 32 #[.int .i64 l[k], .string t] w0 fun r w' => r = .returned (.agg #[.int .i64 (powM 4 l[k] 2147483579), .int .i64 (eM l[k] t), .int .i64 (sM l[k] t)]) ∧ Below w0.heap.size w0 w' := fun w0 => specSign l[k] t w0 hx hs (by omega)
    have HMn : Hid (m ++ [(⟨powM 4 l[k] 2147483579, eM l[k] t, sM l[k] t⟩ : SigV)] = (l.take (k + 1)).map (sgnV t)) := by show _ = _; rw [HM.out]; exact take_next (sgnV t) hkl
    have HTn : Hid (∀ j (hj : j < l.length), j < k + 1 → IsSec l[j]) := fun j hj hjk => by
      by_cases hjk2 : j < k
      · exact HT.out j hj hjk2
      · obtain rfl : j = k := by omega
        exact hs
    rw [secB_yes hs] at hG
    clear hx hs HM HT
    obtain ⟨x, hxe⟩ : ∃ x, l[k] = x := ⟨_, rfl⟩
    have HXl : Hid (∃ hk : k < l.length, l[k] = x) := ⟨hkl, hxe⟩
    rw [hxe] at hc hG hSg HMn
    clear hxe
    generalize powM 4 x 2147483579 = Y at *
    generalize eM x t = E at *
    generalize sM x t = Z at *
    go_wp2_with (go_at_call 31; with_reducible refine (hG _).mono ?_; rintro r w' ⟨rfl, rfl⟩)
    refine wp_region_held_drew (S := fun w' => w'.cell? ⟨b, o + k, none⟩ = some (.int .i64 x)) (by kernel_rfl) (sec_at HAI (KpSa.drew HS) HXl) (fun hHeld => ?_)
    refine wpAnyH_take (i := 0) (oi := ⟨_, _, _, _, _, _⟩) (v := .pointer (some ⟨GA, 1, none⟩)) rfl (by kernel_rfl) (by kernel_rfl) (by kernel_rfl) (fun _ _ _ h => h) (Or.inl ⟨wanted_free rfl, fun w' hSw => ?_⟩) hHeld ?_
    · go_simp
    try simp only [Act.put, List.setIfInBounds_toArray, List.set_cons_zero, List.set_cons_succ]
    refine wpAnyH_take (i := 2) (oi := ⟨_, _, _, _, _, _⟩) (v := .slice (some ⟨b, o, none⟩) n c) rfl (by kernel_rfl) (by kernel_rfl) (by kernel_rfl) (fun _ _ _ h => h) (Or.inl ⟨wanted_free rfl, fun w' hSw => ?_⟩) hHeld ?_
    · go_simp
    try simp only [Act.put, List.setIfInBounds_toArray, List.set_cons_zero, List.set_cons_succ]
    refine wpAnyH_take (i := 3) (oi := ⟨_, _, _, _, _, _⟩) (v := .int .i64 (k : Int)) rfl (by kernel_rfl) (by kernel_rfl) (by kernel_rfl) (fun _ _ _ h => h) (Or.inl ⟨wanted_free rfl, fun w' hSw => ?_⟩) hHeld ?_
    · go_simp
    try simp only [Act.put, List.setIfInBounds_toArray, List.set_cons_zero, List.set_cons_succ]
    refine wpAnyH_take (i := 4) (oi := ⟨_, _, _, _, _, _⟩) (v := .pointer (some ⟨b, o + k, none⟩)) rfl (by kernel_rfl) (by kernel_rfl) (by kernel_rfl) (fun _ _ _ h => h) (Or.inl ⟨wanted_free rfl, fun w' hSw => ?_⟩) hHeld ?_
    · go_simp
    try simp only [Act.put, List.setIfInBounds_toArray, List.set_cons_zero, List.set_cons_succ]
    refine wpAnyH_take (i := 5) (oi := ⟨_, _, _, _, _, _⟩) (v := .int .i64 x) rfl (by kernel_rfl) (by kernel_rfl) (by kernel_rfl) (fun _ _ _ h => h) (Or.inl ⟨wanted_free rfl, fun w' hSw => ?_⟩) hHeld ?_
    · have hSc := hSw
      go_simp
    try simp only [Act.put, List.setIfInBounds_toArray, List.set_cons_zero, List.set_cons_succ]
    refine wpAnyH_take (i := 6) (oi := ⟨_, _, _, _, _, _⟩) (v := .string t) rfl (by kernel_rfl) (by kernel_rfl) (by kernel_rfl) (fun _ _ _ h => h) (Or.inl ⟨wanted_free rfl, fun w' hSw => ?_⟩) hHeld ?_
    · go_simp
    try simp only [Act.put, List.setIfInBounds_toArray, List.set_cons_zero, List.set_cons_succ]
    have HSW := KpSa.drew HS
    generalize wr.drew = W at *
    clear HS
    refine wpAnyH_ready (rs := [1, 7]) (by kernel_rfl) (by simp) (AllReadyH.cons (o := ⟨_, _, _, _, _, _⟩) rfl (fun K hK => ?_) (AllReadyH.cons (o := ⟨_, _, _, _, _, _⟩) rfl (fun K hK => ?_) AllReadyH.nil))
    · as_aux_lemma =>
      rewrite [if_pos (wanted_free rfl)]
      with_reducible refine wp_load1 33 57 (.tmp 41) (by with_unfolding_all rfl) GA 1 v (by with_unfolding_all rfl) (KpSa.cell HSW).2 Tryd.underlying33 ?_
      refine hK.out _ _ (sec_at HAI HSW HXl) (fun _ => ?_)
      clear hK K
      try simp only [Act.put, List.setIfInBounds_toArray, List.set_cons_zero, List.set_cons_succ]
      refine wpAnyH_ready (rs := [7]) (by kernel_rfl) (by simp) (AllReadyH.cons (o := ⟨_, _, _, _, _, _⟩) rfl (fun K hK => ?_) AllReadyH.nil)
      rewrite [if_pos (wanted_free rfl)]
      go_simp
      refine (hSg W).mono ?_
      rintro e Wc ⟨rfl, hBWc⟩
      have HSWc := KpSa.call HSW hBWc
      go_wp2_with fail
      refine hK.out _ _ (sec_at HAI HSWc HXl) (fun _ => ?_)
      clear hK K
      try simp only [Act.put, List.setIfInBounds_toArray, List.set_cons_zero, List.set_cons_succ]
      refine wpAnyH_ready (rs := [8]) (by kernel_rfl) (by simp) (AllReadyH.cons (o := ⟨_, _, _, _, _, _⟩) rfl (fun K hK => ?_) AllReadyH.nil)
      rewrite [if_pos (wanted_free rfl)]
      with_reducible refine wp_buildSg (w := Wc) (.tmp 48) (by with_unfolding_all rfl) Y E Z (by with_unfolding_all rfl) ?_
      intro Wcc hAWcc hBWcc
      have HSWcc := KpSa.call HSWc hBWcc
      refine hK.out _ _ (sec_at HAI HSWcc HXl) (fun _ => ?_)
      clear hK K
      try simp only [Act.put, List.setIfInBounds_toArray, List.set_cons_zero, List.set_cons_succ]
      refine wpAnyH_ready (rs := [9]) (by kernel_rfl) (by simp) (AllReadyH.cons (o := ⟨_, _, _, _, _, _⟩) rfl (fun K hK => ?_) AllReadyH.nil)
      rewrite [if_pos (wanted_free rfl)]
      with_reducible refine wp_appendSg (W := Wcc) (.tmp 42) (.tmp 49) (by with_unfolding_all rfl) B v m ⟨Y, E, Z⟩ (by with_unfolding_all rfl) HSWcc.out.own Wc.heap.size (by with_unfolding_all rfl) hAWcc hm1000 HSWcc.out.sz ?_
      intro v2 wa hOa hGa hba
      have RA := KpSa.r5g HSWcc hGa
      have hSa : wa.cell? ⟨b, o + k, none⟩ = some (.int .i64 x) := sec_app HSWcc hGa HX.out ((sec_at HAI HSWcc HXl))
      refine hK.out _ _ hSa (fun _ => ?_)
      clear hK K
      try simp only [Act.put, List.setIfInBounds_toArray, List.set_cons_zero, List.set_cons_succ]
      refine wpAnyH_take (i := 10) (oi := ⟨_, _, _, _, _, _⟩) (v := .pointer (some ⟨GA, 1, none⟩)) rfl (by kernel_rfl) (by kernel_rfl) (by kernel_rfl) (fun _ _ _ h => h) (Or.inl ⟨wanted_free rfl, fun w' hSw => ?_⟩) hSa ?_
      · go_simp
      try simp only [Act.put, List.setIfInBounds_toArray, List.set_cons_zero, List.set_cons_succ]
      obtain ⟨a2, cc2, rfl, -⟩ := OwnSg.form hOa
      refine wpAnyH_ready (rs := [11]) (by kernel_rfl) (by simp) (AllReadyH.cons (o := ⟨_, _, _, _, _, _⟩) rfl (fun K hK => ?_) AllReadyH.nil)
      rewrite [if_pos (wanted_free rfl)]
      with_reducible refine wp_cellO 33 (.tmp 51) (.tmp 50) (by with_unfolding_all rfl) GA 1 (sdw t v) (sdw t (.slice a2 (m ++ [(⟨Y, E, Z⟩ : SigV)]).length cc2)) (.slice a2 (m ++ [(⟨Y, E, Z⟩ : SigV)]).length cc2) (by with_unfolding_all rfl) (by with_unfolding_all rfl) rfl Tryd.size1Sgs RA (by simp [sdw]) (by with_unfolding_all rfl) ?_
      intro wz hAz hOz
      have HSz := KpSa.put HSWcc hOa hGa hAz hOz
      have hSz : wz.cell? ⟨b, o + k, none⟩ = some (.int .i64 x) := sec_at HAI HSz HXl
      refine hK.out _ _ hSz (fun _ => ?_)
      clear hK K
      refine wpAnyH_done (by kernel_rfl) ?_ _
      clear HSW HSWc HSWcc
      go_wp2
      go_roundw
      case rel => exact ⟨k + 1, _, _, by go_num, by omega, HMn, HTn, HSz⟩
      case measure => simp [intOf]; omega
    · as_aux_lemma =>
      rewrite [if_pos (wanted_free rfl)]
      go_simp
      refine (hSg W).mono ?_
      rintro e Wc ⟨rfl, hBWc⟩
      have HSWc := KpSa.call HSW hBWc
      go_wp2_with fail
      refine hK.out _ _ (sec_at HAI HSWc HXl) (fun _ => ?_)
      clear hK K
      try simp only [Act.put, List.setIfInBounds_toArray, List.set_cons_zero, List.set_cons_succ]
      refine wpAnyH_ready (rs := [1, 8]) (by kernel_rfl) (by simp) (AllReadyH.cons (o := ⟨_, _, _, _, _, _⟩) rfl (fun K hK => ?_) (AllReadyH.cons (o := ⟨_, _, _, _, _, _⟩) rfl (fun K hK => ?_) AllReadyH.nil))
      · as_aux_lemma =>
        rewrite [if_pos (wanted_free rfl)]
        with_reducible refine wp_load1 33 57 (.tmp 41) (by with_unfolding_all rfl) GA 1 v (by with_unfolding_all rfl) (KpSa.cell HSWc).2 Tryd.underlying33 ?_
        refine hK.out _ _ (sec_at HAI HSWc HXl) (fun _ => ?_)
        clear hK K
        try simp only [Act.put, List.setIfInBounds_toArray, List.set_cons_zero, List.set_cons_succ]
        refine wpAnyH_ready (rs := [8]) (by kernel_rfl) (by simp) (AllReadyH.cons (o := ⟨_, _, _, _, _, _⟩) rfl (fun K hK => ?_) AllReadyH.nil)
        rewrite [if_pos (wanted_free rfl)]
        with_reducible refine wp_buildSg (w := Wc) (.tmp 48) (by with_unfolding_all rfl) Y E Z (by with_unfolding_all rfl) ?_
        intro Wcc hAWcc hBWcc
        have HSWcc := KpSa.call HSWc hBWcc
        refine hK.out _ _ (sec_at HAI HSWcc HXl) (fun _ => ?_)
        clear hK K
        try simp only [Act.put, List.setIfInBounds_toArray, List.set_cons_zero, List.set_cons_succ]
        refine wpAnyH_ready (rs := [9]) (by kernel_rfl) (by simp) (AllReadyH.cons (o := ⟨_, _, _, _, _, _⟩) rfl (fun K hK => ?_) AllReadyH.nil)
        rewrite [if_pos (wanted_free rfl)]
        with_reducible refine wp_appendSg (W := Wcc) (.tmp 42) (.tmp 49) (by with_unfolding_all rfl) B v m ⟨Y, E, Z⟩ (by with_unfolding_all rfl) HSWcc.out.own Wc.heap.size (by with_unfolding_all rfl) hAWcc hm1000 HSWcc.out.sz ?_
        intro v2 wa hOa hGa hba
        have RA := KpSa.r5g HSWcc hGa
        have hSa : wa.cell? ⟨b, o + k, none⟩ = some (.int .i64 x) := sec_app HSWcc hGa HX.out ((sec_at HAI HSWcc HXl))
        refine hK.out _ _ hSa (fun _ => ?_)
        clear hK K
        try simp only [Act.put, List.setIfInBounds_toArray, List.set_cons_zero, List.set_cons_succ]
        refine wpAnyH_take (i := 10) (oi := ⟨_, _, _, _, _, _⟩) (v := .pointer (some ⟨GA, 1, none⟩)) rfl (by kernel_rfl) (by kernel_rfl) (by kernel_rfl) (fun _ _ _ h => h) (Or.inl ⟨wanted_free rfl, fun w' hSw => ?_⟩) hSa ?_
        · go_simp
        try simp only [Act.put, List.setIfInBounds_toArray, List.set_cons_zero, List.set_cons_succ]
        obtain ⟨a2, cc2, rfl, -⟩ := OwnSg.form hOa
        refine wpAnyH_ready (rs := [11]) (by kernel_rfl) (by simp) (AllReadyH.cons (o := ⟨_, _, _, _, _, _⟩) rfl (fun K hK => ?_) AllReadyH.nil)
        rewrite [if_pos (wanted_free rfl)]
        with_reducible refine wp_cellO 33 (.tmp 51) (.tmp 50) (by with_unfolding_all rfl) GA 1 (sdw t v) (sdw t (.slice a2 (m ++ [(⟨Y, E, Z⟩ : SigV)]).length cc2)) (.slice a2 (m ++ [(⟨Y, E, Z⟩ : SigV)]).length cc2) (by with_unfolding_all rfl) (by with_unfolding_all rfl) rfl Tryd.size1Sgs RA (by simp [sdw]) (by with_unfolding_all rfl) ?_
        intro wz hAz hOz
        have HSz := KpSa.put HSWcc hOa hGa hAz hOz
        have hSz : wz.cell? ⟨b, o + k, none⟩ = some (.int .i64 x) := sec_at HAI HSz HXl
        refine hK.out _ _ hSz (fun _ => ?_)
        clear hK K
        refine wpAnyH_done (by kernel_rfl) ?_ _
        clear HSW HSWc HSWcc
        go_wp2
        go_roundw
        case rel => exact ⟨k + 1, _, _, by go_num, by omega, HMn, HTn, HSz⟩
        case measure => simp [intOf]; omega
      · as_aux_lemma =>
        rewrite [if_pos (wanted_free rfl)]
        with_reducible refine wp_buildSg (w := Wc) (.tmp 48) (by with_unfolding_all rfl) Y E Z (by with_unfolding_all rfl) ?_
        intro Wcc hAWcc hBWcc
        have HSWcc := KpSa.call HSWc hBWcc
        refine hK.out _ _ (sec_at HAI HSWcc HXl) (fun _ => ?_)
        clear hK K
        try simp only [Act.put, List.setIfInBounds_toArray, List.set_cons_zero, List.set_cons_succ]
        refine wpAnyH_ready (rs := [1]) (by kernel_rfl) (by simp) (AllReadyH.cons (o := ⟨_, _, _, _, _, _⟩) rfl (fun K hK => ?_) AllReadyH.nil)
        rewrite [if_pos (wanted_free rfl)]
        with_reducible refine wp_load1 33 57 (.tmp 41) (by with_unfolding_all rfl) GA 1 v (by with_unfolding_all rfl) (KpSa.cell HSWcc).2 Tryd.underlying33 ?_
        refine hK.out _ _ (sec_at HAI HSWcc HXl) (fun _ => ?_)
        clear hK K
        try simp only [Act.put, List.setIfInBounds_toArray, List.set_cons_zero, List.set_cons_succ]
        refine wpAnyH_ready (rs := [9]) (by kernel_rfl) (by simp) (AllReadyH.cons (o := ⟨_, _, _, _, _, _⟩) rfl (fun K hK => ?_) AllReadyH.nil)
        rewrite [if_pos (wanted_free rfl)]
        with_reducible refine wp_appendSg (W := Wcc) (.tmp 42) (.tmp 49) (by with_unfolding_all rfl) B v m ⟨Y, E, Z⟩ (by with_unfolding_all rfl) HSWcc.out.own Wc.heap.size (by with_unfolding_all rfl) hAWcc hm1000 HSWcc.out.sz ?_
        intro v2 wa hOa hGa hba
        have RA := KpSa.r5g HSWcc hGa
        have hSa : wa.cell? ⟨b, o + k, none⟩ = some (.int .i64 x) := sec_app HSWcc hGa HX.out ((sec_at HAI HSWcc HXl))
        refine hK.out _ _ hSa (fun _ => ?_)
        clear hK K
        try simp only [Act.put, List.setIfInBounds_toArray, List.set_cons_zero, List.set_cons_succ]
        refine wpAnyH_take (i := 10) (oi := ⟨_, _, _, _, _, _⟩) (v := .pointer (some ⟨GA, 1, none⟩)) rfl (by kernel_rfl) (by kernel_rfl) (by kernel_rfl) (fun _ _ _ h => h) (Or.inl ⟨wanted_free rfl, fun w' hSw => ?_⟩) hSa ?_
        · go_simp
        try simp only [Act.put, List.setIfInBounds_toArray, List.set_cons_zero, List.set_cons_succ]
        obtain ⟨a2, cc2, rfl, -⟩ := OwnSg.form hOa
        refine wpAnyH_ready (rs := [11]) (by kernel_rfl) (by simp) (AllReadyH.cons (o := ⟨_, _, _, _, _, _⟩) rfl (fun K hK => ?_) AllReadyH.nil)
        rewrite [if_pos (wanted_free rfl)]
        with_reducible refine wp_cellO 33 (.tmp 51) (.tmp 50) (by with_unfolding_all rfl) GA 1 (sdw t v) (sdw t (.slice a2 (m ++ [(⟨Y, E, Z⟩ : SigV)]).length cc2)) (.slice a2 (m ++ [(⟨Y, E, Z⟩ : SigV)]).length cc2) (by with_unfolding_all rfl) (by with_unfolding_all rfl) rfl Tryd.size1Sgs RA (by simp [sdw]) (by with_unfolding_all rfl) ?_
        intro wz hAz hOz
        have HSz := KpSa.put HSWcc hOa hGa hAz hOz
        have hSz : wz.cell? ⟨b, o + k, none⟩ = some (.int .i64 x) := sec_at HAI HSz HXl
        refine hK.out _ _ hSz (fun _ => ?_)
        clear hK K
        refine wpAnyH_done (by kernel_rfl) ?_ _
        clear HSW HSWc HSWcc
        go_wp2
        go_roundw
        case rel => exact ⟨k + 1, _, _, by go_num, by omega, HMn, HTn, HSz⟩
        case measure => simp [intOf]; omega
end Go.Proofs.YtmahpmjkejnkfaaDoor
namespace Go.Proofs.YtmahpmjkejnkfaaDoor
open Go.RowKit
set_option linter.unusedVariables false

theorem saL_len (l : List Int) (t : ByteArray) : (saL l t).length ≤ 16 := by
  unfold saL
  split
  · rename_i h
    rw [List.length_map]
    unfold saB at h
    rw [Bool.and_eq_true] at h
    exact (of_decide_eq_true h.1).1
  · exact Nat.zero_le _
theorem iat_sgs {w : World} {a : Option Addr} {m : List SigV} (h : IAt w a (flI m)) : SgsAt w a m := fun i hi => by
  have hl : i * 3 + 2 < (flI m).length := by rw [flI_len]; omega
  obtain ⟨g, ha, hc⟩ := h (by intro e; rw [e] at hl; simp at hl)
  obtain ⟨e0, e1, e2⟩ := flat_get m i hi
  have key : ∀ j u, j < (flI m).length → (sgL m).flatten[j]? = some u → w.cell? ⟨g, 0 + j, none⟩ = some u := fun j u hj hu => by
    rw [flI_flat, List.getElem?_map, List.getElem?_eq_getElem hj] at hu
    rw [Nat.zero_add, (hc j hj).1]
    exact hu
  exact ⟨g, 0, ha, key _ _ (by omega) e0, by have := key _ _ (by omega) e1; rw [← Nat.add_assoc] at this; exact this, by have := key _ _ hl e2; rw [← Nat.add_assoc] at this; exact this⟩
theorem IAt.off {w w' : World} {a : Option Addr} {L : List Int} (h : IAt w a L) (hF : ∀ x ad : Addr, x.block < w.heap.size → a = some ad → x.block = ad.block → w'.cell? x = w.cell? x ∧ w'.frozen? x = w.frozen? x) : IAt w' a L := fun hl => by
  obtain ⟨g, ha, hc⟩ := h hl
  refine ⟨g, ha, fun k hk => ?_⟩
  have e := hF ⟨g, k, none⟩ ⟨g, 0, none⟩ (cellLt (hc k hk).1) ha rfl
  exact ⟨e.1.trans (hc k hk).1, e.2.trans (hc k hk).2⟩
structure KpLa (w4 : World) (g6 gG N cG : Nat) (x : ByteArray) (aG : Option Addr) (L6 LG : List Int) (w' : World) : Prop where
  b4 : Below w4.heap.size w4 w'
  i6 : IAt w' (some ⟨g6, 0, none⟩) L6
  rG : RowV w' gG (sgv x aG N cG)
  iG : IAt w' aG LG
  h6 : w4.heap.size ≤ g6
  h7 : g6 < gG
  hG : ∀ ad, aG = some ad → g6 < ad.block ∧ ad.block < gG
section
variable {w4 w' w2 : World} {g6 gG N cG : Nat} {x : ByteArray} {aG : Option Addr} {L6 LG L' : List Int}
theorem KpLa.start {w5 w6 w7 w8 : World} {m : List SigV} (hB5 : Below w4.heap.size w4 w5) (h6 : IAt w5 (some ⟨w4.heap.size, 0, none⟩) L6) (z5 : w4.heap.size < w5.heap.size) (hB6 : Below w5.heap.size w5 w6) (hO : OwnSg w6 w5.heap.size (.slice aG N cG) m) (hB7 : Below w6.heap.size w6 w7) (hB8 : ∀ B, B ≤ w6.heap.size → Below B w7 w8) (hA8 : RowV w8 w6.heap.size (sgv x aG N cG)) :
    Hid (KpLa w4 w4.heap.size w6.heap.size N cG x aG L6 (flI m) w8) := by
  have b68 : Below w6.heap.size w6 w8 := hB7.trans (hB8 _ (Nat.le_refl _))
  have z6 := hB6.size
  exact ⟨(hB5.trans (hB6.mono (by omega))).trans (b68.mono (by omega)), (h6.below hB6).below b68, hA8, hO.iat.below b68, Nat.le_refl _, by omega, fun ad e => by have := hO.blk ad e; omega⟩
theorem KpLa.call (h : Hid (KpLa w4 g6 gG N cG x aG L6 LG w')) (hb : Below w'.heap.size w' w2) : Hid (KpLa w4 g6 gG N cG x aG L6 LG w2) :=
  ⟨h.out.b4.trans (hb.mono h.out.b4.size), h.out.i6.below hb, h.out.rG.below hb (h.out.rG.lt (sgv_ne _ _ _ _)), h.out.iG.below hb, h.out.h6, h.out.h7, h.out.hG⟩
theorem KpLa.mark6 (h : Hid (KpLa w4 g6 gG N cG x aG L6 LG w')) (hi : IAt w2 (some ⟨g6, 0, none⟩) L') (hm : Wrote (some ⟨g6, 0, none⟩) w' w2) : Hid (KpLa w4 g6 gG N cG x aG L' LG w2) := by
  have a6 := h.out.h6
  have a7 := h.out.h7
  refine ⟨h.out.b4.trans (hm.below _ h.out.b4.size (fun ad e => by injection e with e; rw [← e]; exact a6)), hi, h.out.rG.same fun k => hm.far ⟨gG, k, none⟩ (fun ad e => by injection e with e; rw [← e]; exact Nat.ne_of_gt a7), h.out.iG.off fun y ad2 _ e2 hy => ?_, a6, a7, h.out.hG⟩
  refine hm.far y (fun ad e => ?_)
  injection e with e
  rw [← e]
  have := (h.out.hG ad2 e2).1
  show y.block ≠ g6
  omega
theorem KpLa.markG (h : Hid (KpLa w4 g6 gG N cG x aG L6 LG w')) (hi : IAt w2 aG L') (hm : MkO aG w' w2) : Hid (KpLa w4 g6 gG N cG x aG L6 L' w2) := by
  have a6 := h.out.h6
  have a7 := h.out.h7
  refine ⟨h.out.b4.trans (hm.below _ h.out.b4.size (fun ad e => by have := (h.out.hG ad e).1; omega)), h.out.i6.off fun y ad2 hl e2 hy => hm.far y hl (fun ad e => by have := (h.out.hG ad e).1; injection e2 with e2; rw [← e2] at hy; simp only at hy; omega), h.out.rG.same fun k => hm.far ⟨gG, k, none⟩ (h.out.rG.lt (sgv_ne _ _ _ _)) (fun ad e => Nat.ne_of_gt (h.out.hG ad e).2), hi, a6, a7, h.out.hG⟩
theorem KpLa.gc (h : Hid (KpLa w4 g6 gG N cG x aG L6 LG w')) : w'.cell? ⟨gG, 0, none⟩ = some (.string x) ∧ w'.cell? ⟨gG, 1, none⟩ = some (.slice aG N cG) := h.out.rG.sg
theorem KpLa.wc {gW nW cW : Nat} {y : ByteArray} {aW : Option Addr} (h : Hid (KpLa w4 g6 gG N cG x aG L6 LG w')) (hr : Hid (RowV w4 gW (sgv y aW nW cW))) : w'.cell? ⟨gW, 0, none⟩ = some (.string y) ∧ w'.cell? ⟨gW, 1, none⟩ = some (.slice aW nW cW) := (hr.out.below h.out.b4 (hr.out.lt (sgv_ne _ _ _ _))).sg
theorem KpLa.sg {aW : Option Addr} {m : List SigV} (h : Hid (KpLa w4 g6 gG N cG x aG L6 LG w')) (hs : Hid (SgsAt w4 aW m)) : SgsAt w' aW m := hs.out.below h.out.b4
theorem KpLa.ai {a : Option Addr} {l : List Int} (h : Hid (KpLa w4 g6 gG N cG x aG L6 LG w')) (hs : Hid (AI w4 a l)) : AI w' a l := hs.out.below h.out.b4
theorem KpLa.bw {w : World} (h : Hid (KpLa w4 g6 gG N cG x aG L6 LG w')) (hb : Hid (Below w.heap.size w w4)) : Below w.heap.size w w' := hb.out.trans (h.out.b4.mono hb.out.size)
theorem KpLa.ig (h : Hid (KpLa w4 g6 gG N cG x aG L6 LG w')) : IAt w' aG LG := h.out.iG
theorem KpLa.i6H (h : Hid (KpLa w4 g6 gG N cG x aG L6 LG w')) : IAt w' (some ⟨g6, 0, none⟩) L6 := h.out.i6
end
set_option maxRecDepth 100000 in
set_option maxHeartbeats 4000000 in
theorem lawSignAll (a : Option Addr) (c n : Nat) (l : List Int) (t : ByteArray) (w : World) (hn : l.length = n) (h : AI w a l) (hb : n ≤ maxLen) (hw : ∀ x ∈ l, I64 x) (ht : t.size ≤ maxLen) (ha : ArrU w 0 keys) (h0 : 0 < w.heap.size) :
    Calls Tryd.prog 4 #[.slice a n c, .string t] w fun r w' => r = .returned (.bool true) ∧ Below w.heap.size w w' := by
  unfold maxLen at hb ht
  by_cases c1 : 1048576 < n
  · have d1 : decide ((1048576 : Int) < (n : Int)) = true := decide_eq_true (by omega)
    go_enter Tryd.func4, Tryd.ntmps4
    go_wp2
    go_ret
    exact ⟨rfl, Below.refl _ _⟩
  have d1 : decide ((1048576 : Int) < (n : Int)) = false := decide_eq_false (by omega)
  by_cases c2 : 1048576 < t.size
  · have d2 : decide ((1048576 : Int) < (t.size : Int)) = true := decide_eq_true (by omega)
    go_enter Tryd.func4, Tryd.ntmps4
    go_wp2
    go_ret
    exact ⟨rfl, Below.refl _ _⟩
  have d2 : decide ((1048576 : Int) < (t.size : Int)) = false := decide_eq_false (by omega)
  have hT : ∀ w0, AI w0 a l → Calls Tryd.prog 14 #[.slice a n c] w0 fun e w' => e = .returned (.slice (some ⟨w0.heap.size, 0, none⟩) n n) ∧ IAt w' (some ⟨w0.heap.size, 0, none⟩) l ∧ Below w0.heap.size w0 w' ∧ w0.heap.size < w'.heap.size := fun w0 h => toI_any a c n l w0 hn h (by omega)
  have HL := hidP (saL_len l t)
  have hI : ∀ w0 g, Below w.heap.size w w0 → IAt w0 (some ⟨g, 0, none⟩) l → Calls Tryd.prog 15 #[.slice (some ⟨g, 0, none⟩) n n, .string t] w0 fun r w' => ∃ aG cG, r = .returned (.agg #[.string (saT l t), .slice aG (saL l t).length cG]) ∧ OwnSg w' w0.heap.size (.slice aG (saL l t).length cG) (saL l t) ∧ Below w0.heap.size w0 w' := fun w0 g hB hi => (implSignAll (some ⟨g, 0, none⟩) n n l t w0 hn hi.ai (by unfold maxLen; omega) (by unfold maxLen; omega) hw (ha.below hB h0) (Nat.lt_of_lt_of_le h0 hB.size)).mono (by
    rintro r w' ⟨v, rfl, h1, h2⟩
    obtain ⟨aG, cG, rfl, -⟩ := OwnSg.form h2
    exact ⟨aG, cG, rfl, h2, h1⟩)
  have hS : ∀ w0 g, Below w.heap.size w w0 → IAt w0 (some ⟨g, 0, none⟩) l → Calls Tryd.prog 13 #[.slice (some ⟨g, 0, none⟩) n n, .string t] w0 fun r w' => ∃ aG cG, r = .returned (.agg #[.string (saT l t), .slice aG (saL l t).length cG]) ∧ OwnSg w' w0.heap.size (.slice aG (saL l t).length cG) (saL l t) ∧ Below w0.heap.size w0 w' := fun w0 g hB hi => (specSignAll (some ⟨g, 0, none⟩) n n l t w0 hn hi.ai (by unfold maxLen; omega) (by unfold maxLen; omega) hw (ha.below hB h0) (Nat.lt_of_lt_of_le h0 hB.size)).mono (by
    rintro r w' ⟨v, rfl, h1, h2⟩
    obtain ⟨aG, cG, rfl, -⟩ := OwnSg.form h2
    exact ⟨aG, cG, rfl, h2, h1⟩)
  have hQ : ∀ w0 g1 g2, IAt w0 (some ⟨g1, 0, none⟩) l → IAt w0 (some ⟨g2, 0, none⟩) l → Calls Tryd.prog 16 #[.slice (some ⟨g1, 0, none⟩) n n, .slice (some ⟨g2, 0, none⟩) n n] w0 fun e w' => e = .returned (.bool true) ∧ Below w0.heap.size w0 w' := fun w0 g1 g2 h1 h2 => eqAI_any _ _ n n n l w0 hn h1.ai h2.ai (by unfold maxLen; omega)
  have hK : ∀ w0 g, IAt w0 (some ⟨g, 0, none⟩) l → Calls Tryd.prog 17 #[.slice (some ⟨g, 0, none⟩) n n, .int .i64 1] w0 fun e w' => e = .returned (.int .i64 (1 + (n : Int))) ∧ IAt w' (some ⟨g, 0, none⟩) (cnt 1 n) ∧ Wrote (some ⟨g, 0, none⟩) w0 w' := fun w0 g h1 => by
    have := markI_any (some ⟨g, 0, none⟩) n l 1 w0 h1 (by omega) (by omega) (by omega)
    rw [hn] at this
    exact this
  obtain ⟨R1, hR1⟩ : ∃ R, (1 : Int) + (n : Int) = R := ⟨_, rfl⟩
  rw [hR1] at hK
  have d3 : decide (R1 < 0) = false := decide_eq_false (by omega)
  obtain ⟨m, hm⟩ : ∃ m, saL l t = m := ⟨_, rfl⟩
  obtain ⟨x, hx⟩ : ∃ x, saT l t = x := ⟨_, rfl⟩
  rw [hm, hx] at hI hS
  rw [hm] at HL
  obtain ⟨N, hN⟩ : ∃ N, m.length = N := ⟨_, rfl⟩
  rw [hN] at hI hS HL
  have hN16 : N ≤ 16 := HL.out
  have hE : ∀ w0 a1 c1 a2 c2, SgsAt w0 a1 m → SgsAt w0 a2 m → Calls Tryd.prog 12 #[.agg #[.string x, .slice a1 N c1], .agg #[.string x, .slice a2 N c2]] w0 fun e w' => e = .returned (.bool true) ∧ Below w0.heap.size w0 w' := fun w0 a1 c1 a2 c2 h1 h2 => eqSd_any x a1 a2 c1 c2 N m w0 hN h1 h2 (by unfold maxLen; omega)
  obtain ⟨R, hRR⟩ : ∃ R, (1 : Int) + 3 * (N : Int) = R := ⟨_, rfl⟩
  have hM : ∀ w0 a1 c1, IAt w0 a1 (flI m) → Calls Tryd.prog 18 #[.agg #[.string x, .slice a1 N c1], .int .i64 1] w0 fun e w' => e = .returned (.int .i64 R) ∧ IAt w' a1 (cnt 1 (3 * N)) ∧ MkO a1 w0 w' := fun w0 a1 c1 h1 => hRR ▸ markSd_any x a1 c1 N (flI m) 1 w0 (by rw [flI_len, hN]) h1 (by omega) (by omega) (by omega)
  have hH : ∀ w0 a1 c1, IAt w0 a1 (cnt 1 (3 * N)) → Calls Tryd.prog 19 #[.agg #[.string x, .slice a1 N c1], .int .i64 1] w0 fun e w' => e = .returned (.int .i64 R) ∧ Below w0.heap.size w0 w' := fun w0 a1 c1 h1 => hRR ▸ heldSd_any x a1 c1 N 1 w0 h1 (by omega) (by omega) (by omega)
  have d4 : decide (R < 0) = false := decide_eq_false (by omega)
  have e2 : (R == R) = true := by simp
  have HA : Hid (AI w a l) := h
  clear h ha hw hn hm hx hN HL hRR hR1
  go_enter Tryd.func4, Tryd.ntmps4
  go_wp2_with (first
    | (go_at_call 14; with_reducible refine (hT w HA.out).mono ?_; rintro r w1 ⟨rfl, hi1, hB1, z1⟩; have I1 := hidP hi1; clear hi1)
    | (go_at_call 13; with_reducible refine (hS w1 _ hB1 I1.out).mono ?_; rintro r w2 ⟨aW, cW, rfl, hO2, hB2⟩; have O2 := hidP hO2; clear hO2)
    | (with_reducible refine wpList_allocV (w := w2) (by with_unfolding_all rfl) 35 (by with_unfolding_all rfl) (sgv ⟨#[]⟩ none 0 0) Tryd.infoSd ?_; intro w3 hA3 hB3 hS3; clear hS3)
    | (with_reducible refine wpList_storeH (w := w3) (by with_unfolding_all rfl) 35 (.tmp 5) (.tmp 21) (by with_unfolding_all rfl) w2.heap.size (sgv ⟨#[]⟩ none 0 0) (sgv x aW N cW) (by with_unfolding_all rfl) (by with_unfolding_all rfl) hA3 2 Tryd.sizeSd (by with_unfolding_all rfl) (by with_unfolding_all rfl) (sgv_one _ _ _ _) ?_; intro w4 hA4 hB4 hF4 hS4; have b24 : Below w2.heap.size w2 w4 := hB3.trans (hB4 _ (Nat.le_refl _)); have RW4 := hidP hA4; have S4 := hidP (O2.out.len.2.below b24); have BW4 := hidP ((hB1.trans (hB2.mono hB1.size)).trans (b24.mono (Nat.le_trans hB1.size hB2.size))); have A4 := hidP (HA.out.below BW4.out); clear hA3 hA4 hB3 hB4 hF4 hS4 b24 hB1 hB2 O2 I1 z1)
    | (go_at_call 14; with_reducible refine (hT w4 A4.out).mono ?_; rintro r w5 ⟨rfl, hi5, hB5, z5⟩; have I5 := hidP hi5; clear hi5)
    | (go_at_call 15; with_reducible refine (hI w5 _ (BW4.out.trans (hB5.mono BW4.out.size)) I5.out).mono ?_; rintro r w6 ⟨aG, cG, rfl, hO6, hB6⟩; have O6 := hidP hO6; clear hO6)
    | (with_reducible refine wpList_allocV (w := w6) (by with_unfolding_all rfl) 35 (by with_unfolding_all rfl) (sgv ⟨#[]⟩ none 0 0) Tryd.infoSd ?_; intro w7 hA7 hB7 hS7; clear hS7)
    | (with_reducible refine wpList_storeH (w := w7) (by with_unfolding_all rfl) 35 (.tmp 7) (.tmp 26) (by with_unfolding_all rfl) w6.heap.size (sgv ⟨#[]⟩ none 0 0) (sgv x aG N cG) (by with_unfolding_all rfl) (by with_unfolding_all rfl) hA7 2 Tryd.sizeSd (by with_unfolding_all rfl) (by with_unfolding_all rfl) (sgv_one _ _ _ _) ?_; intro w8 hA8 hB8 hF8 hS8; have HK8 := KpLa.start hB5 I5.out z5 hB6 O6.out hB7 hB8 hA8; clear hA7 hA8 hB7 hB8 hF8 hS8 hB5 hB6 O6 I5 z5; obtain ⟨p0, p1⟩ := KpLa.wc HK8 RW4; obtain ⟨q0, q1⟩ := KpLa.gc HK8)
    | (go_at_call 12; with_reducible refine (hE w8 aG cG aW cW (iat_sgs (KpLa.ig HK8)) (KpLa.sg HK8 S4)).mono ?_; rintro r w9 ⟨rfl, hB9⟩; have HK9 := KpLa.call HK8 hB9; clear p0 p1 q0 q1 hB9 HK8)
    | (go_at_call 14; with_reducible refine (hT w9 (KpLa.ai HK9 A4)).mono ?_; rintro r w10 ⟨rfl, hi10, hB10, z10⟩; have I10 := hidP hi10; have HK10 := KpLa.call HK9 hB10; clear hi10 hB10 z10 HK9)
    | (go_at_call 16; with_reducible refine (hQ w10 _ _ (KpLa.i6H HK10) I10.out).mono ?_; rintro r w11 ⟨rfl, hB11⟩; have HK11 := KpLa.call HK10 hB11; clear hB11 I10 HK10)
    | (go_at_call 17; with_reducible refine (hK w11 _ (KpLa.i6H HK11)).mono ?_; rintro r w12 ⟨rfl, hi12, hm12⟩; have HK12 := KpLa.mark6 HK11 hi12 hm12; clear hi12 hm12 HK11; obtain ⟨p0, p1⟩ := KpLa.wc HK12 RW4; obtain ⟨q0, q1⟩ := KpLa.gc HK12)
    | (go_at_call 12; with_reducible refine (hE w12 aG cG aW cW (iat_sgs (KpLa.ig HK12)) (KpLa.sg HK12 S4)).mono ?_; rintro r w13 ⟨rfl, hB13⟩; have HK13 := KpLa.call HK12 hB13; clear p0 p1 q0 q1 hB13 HK12; obtain ⟨q0, q1⟩ := KpLa.gc HK13)
    | (go_at_call 18; with_reducible refine (hM w13 aG cG (KpLa.ig HK13)).mono ?_; rintro r w14 ⟨rfl, hi14, hm14⟩; have HK14 := KpLa.markG HK13 hi14 hm14; clear hi14 hm14 q0 q1 HK13; obtain ⟨q0, q1⟩ := KpLa.gc HK14)
    | (go_at_call 19; with_reducible refine (hH w14 aG cG (KpLa.ig HK14)).mono ?_; rintro r w15 ⟨rfl, hB15⟩; have HK15 := KpLa.call HK14 hB15; clear q0 q1 hB15 HK14)
    | (go_at_call 14; with_reducible refine (hT w15 (KpLa.ai HK15 A4)).mono ?_; rintro r w16 ⟨rfl, hi16, hB16, z16⟩; have I16 := hidP hi16; have HK16 := KpLa.call HK15 hB16; clear hi16 hB16 z16 HK15)
    | (go_at_call 15; with_reducible refine (hI w16 _ (KpLa.bw HK16 BW4) I16.out).mono ?_; rintro r w17 ⟨aH, cH, rfl, hO17, hB17⟩; have O17 := hidP hO17; have HK17 := KpLa.call HK16 hB17; clear hO17 hB17 I16 HK16)
    | (with_reducible refine wpList_allocV (w := w17) (by with_unfolding_all rfl) 35 (by with_unfolding_all rfl) (sgv ⟨#[]⟩ none 0 0) Tryd.infoSd ?_; intro w18 hA18 hB18 hS18; clear hS18)
    | (with_reducible refine wpList_storeH (w := w18) (by with_unfolding_all rfl) 35 (.tmp 11) (.tmp 61) (by with_unfolding_all rfl) w17.heap.size (sgv ⟨#[]⟩ none 0 0) (sgv x aH N cH) (by with_unfolding_all rfl) (by with_unfolding_all rfl) hA18 2 Tryd.sizeSd (by with_unfolding_all rfl) (by with_unfolding_all rfl) (sgv_one _ _ _ _) ?_; intro w19 hA19 hB19 hF19 hS19; have B19 : Below w17.heap.size w17 w19 := hB18.trans (hB19 _ (Nat.le_refl _)); have HK19 := KpLa.call HK17 B19; have SH19 := hidP (O17.out.len.2.below B19); clear hF19 hS19 hA18 hB18 hB19 B19 O17 HK17; obtain ⟨p0, p1⟩ := KpLa.wc HK19 RW4; obtain ⟨q0, q1⟩ := hA19.sg)
    | (go_at_call 12; with_reducible refine (hE w19 aH cH aW cW SH19.out (KpLa.sg HK19 S4)).mono ?_; rintro r w20 ⟨rfl, hB20⟩; have HK20 := KpLa.call HK19 hB20; clear p0 p1 q0 q1 hB20 HK19 SH19; obtain ⟨q0, q1⟩ := KpLa.gc HK20)
    | (go_at_call 19; with_reducible refine (hH w20 aG cG (KpLa.ig HK20)).mono ?_; rintro r w21 ⟨rfl, hB21⟩; have HK21 := KpLa.call HK20 hB21; clear q0 q1 hB21 HK20))
  go_ret
  exact ⟨rfl, KpLa.bw HK21 BW4⟩
end Go.Proofs.YtmahpmjkejnkfaaDoor
