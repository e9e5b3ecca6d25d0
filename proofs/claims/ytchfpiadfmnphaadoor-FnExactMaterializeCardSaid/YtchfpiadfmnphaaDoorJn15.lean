/- Right versions, times and roles, on the specification's side. Roots, on the specification's side: their roles lie in a row of two cells each. The laws' helpers of roles and roots: how much room they take, turned to the program's, held against others. -/
import Derived.Test.YtchfpiadfmnphaaDoorJn5
import Derived.Test.YtchfpiadfmnphaaDoorJn10
import Derived.Test.YtchfpiadfmnphaaDoorJn13
namespace Go.Proofs.YtchfpiadfmnphaaDoor
open Go.RowKit
set_option linter.unusedVariables false

def verB (n : Int) : Bool := decide (1 ≤ n ∧ n ≤ 1000000)
def timB (n : Int) : Bool := decide (0 ≤ n ∧ n ≤ 1000000000)
/- A role: how many are needed, and the keys. -/
def KeyOk (ks : List Int) (k : Nat) : Prop := ∃ h : k < ks.length, grB ks[k] = true ∧ (0 < k → ks.getD (k - 1) 0 < ks[k])
def okKs (ks : List Int) : Bool := ks.all grB && (ks.zip (ks.drop 1)).all (fun x => decide (x.1 < x.2))
def roleB (need : Int) (ks : List Int) : Bool := decide (1 ≤ ks.length ∧ ks.length ≤ 8 ∧ 1 ≤ need ∧ need ≤ (ks.length : Int)) && okKs ks
theorem okKs_yes {ks : List Int} (h : ∀ k, k < ks.length → KeyOk ks k) : okKs ks = true := by
  unfold okKs
  rw [Bool.and_eq_true, List.all_eq_true, List.all_eq_true]
  constructor
  · intro x hx
    obtain ⟨k, hk, rfl⟩ := List.mem_iff_getElem.1 hx
    obtain ⟨_, h1, _⟩ := h k hk
    exact h1
  · intro x hx
    obtain ⟨k, hk, rfl⟩ := List.mem_iff_getElem.1 hx
    rw [List.length_zip, List.length_drop] at hk
    rw [List.getElem_zip, decide_eq_true_eq, List.getElem_drop]
    obtain ⟨h1, _, h3⟩ := h (1 + k) (by omega)
    have h4 := h3 (by omega)
    rw [show 1 + k - 1 = k by omega, List.getD_eq_getElem?_getD, List.getElem?_eq_getElem (by omega)] at h4
    exact h4
theorem okKs_no {ks : List Int} {k : Nat} (hk : k < ks.length) (h : ¬ KeyOk ks k) : okKs ks = false := by
  cases ho : okKs ks with
  | false => rfl
  | true =>
    exfalso
    unfold okKs at ho
    rw [Bool.and_eq_true, List.all_eq_true, List.all_eq_true] at ho
    refine h ⟨hk, ho.1 _ (List.getElem_mem hk), fun h0 => ?_⟩
    have hz : k - 1 < (ks.zip (ks.drop 1)).length := by rw [List.length_zip, List.length_drop]; omega
    have := ho.2 _ (List.getElem_mem hz)
    rw [List.getElem_zip, decide_eq_true_eq, List.getElem_drop] at this
    rw [List.getD_eq_getElem?_getD, List.getElem?_eq_getElem (by omega)]
    have e : ks[1 + (k - 1)]'(by omega) = ks[k] := by congr 1; omega
    rw [e] at this
    exact this
def rlv (need : Int) (a : Option Addr) (n c : Nat) : List Value := [.int .i64 need, .slice a n c]
theorem RowV.rl {w : World} {g : Nat} {need : Int} {a : Option Addr} {n c : Nat} (h : RowV w g (rlv need a n c)) : w.cell? ⟨g, 0, none⟩ = some (.int .i64 need) ∧ w.cell? ⟨g, 1, none⟩ = some (.slice a n c) := ⟨h.cell (k := 0) rfl, h.cell (k := 1) rfl⟩
structure KpRl (w : World) (g : Nat) (need : Int) (a : Option Addr) (n c : Nat) (ks : List Int) (w' : World) : Prop where
  below : Below w.heap.size w w'
  v : RowV w' g (rlv need a n c)
  ai : AI w' a ks
theorem KpRl.drewN {w w' : World} {g : Nat} {need : Int} {a : Option Addr} {n c : Nat} {ks : List Int} (h : Hid (KpRl w g need a n c ks w')) (k : Nat) : Hid (KpRl w g need a n c ks (w'.drewN k)) := ⟨belowN h.out.below k, h.out.v.drewN k, h.out.ai⟩
end Go.Proofs.YtchfpiadfmnphaaDoor
namespace Go.Proofs.YtchfpiadfmnphaaDoor
open Go.RowKit
set_option linter.unusedVariables false

structure RoleV where
  need : Int
  ka : Option Addr
  kc : Nat
  ks : List Int
def RoleV.val (r : RoleV) : Value := .agg #[.int .i64 r.need, .slice r.ka r.ks.length r.kc]
def RlsAt (w : World) (a : Option Addr) (rs : List RoleV) : Prop := ∀ i (h : i < rs.length), ∃ b o, a = some ⟨b, o, none⟩ ∧ w.cell? ⟨b, o + i * 2, none⟩ = some (.int .i64 rs[i].need) ∧ w.cell? ⟨b, o + i * 2 + 1, none⟩ = some (.slice rs[i].ka rs[i].ks.length rs[i].kc) ∧ AI w rs[i].ka rs[i].ks
theorem RlsAt.below {w w' : World} {a : Option Addr} {rs : List RoleV} (h : RlsAt w a rs) (hb : Below w.heap.size w w') : RlsAt w' a rs := fun i hi => by
  obtain ⟨b, o, h1, h2, h3, h4⟩ := h i hi
  exact ⟨b, o, h1, (hb.cell (p := ⟨b, o + i * 2, none⟩) (cellLt h2)).trans h2, (hb.cell (p := ⟨b, o + i * 2 + 1, none⟩) (cellLt h3)).trans h3, h4.below hb⟩
/- A role that an int64 and a slice can be. -/
def RoleW (r : RoleV) : Prop := I64 r.need ∧ r.ks.length ≤ maxLen ∧ ∀ x ∈ r.ks, I64 x
def rolesB (rs : List RoleV) : Bool := rs.all (fun r => roleB r.need r.ks)
def rootB (v e : Int) (rs : List RoleV) : Bool := verB v && (timB e && (decide (rs.length = 5) && rolesB rs))
theorem rolesB_yes {rs : List RoleV} (h : ∀ k (hk : k < rs.length), roleB rs[k].need rs[k].ks = true) : rolesB rs = true := by
  unfold rolesB
  rw [List.all_eq_true]
  intro x hx
  obtain ⟨k, hk, rfl⟩ := List.mem_iff_getElem.1 hx
  exact h k hk
theorem rolesB_no {rs : List RoleV} {k : Nat} (hk : k < rs.length) (h : roleB rs[k].need rs[k].ks = false) : rolesB rs = false := by
  cases ho : rolesB rs with
  | false => rfl
  | true =>
    unfold rolesB at ho
    rw [List.all_eq_true] at ho
    have := ho _ (List.getElem_mem hk)
    rw [h] at this
    cases this
def rtv (v e : Int) (a : Option Addr) (n c : Nat) : List Value := [.int .i64 v, .int .i64 e, .slice a n c]
theorem RowV.rt3 {w : World} {g : Nat} {v e : Int} {a : Option Addr} {n c : Nat} (h : RowV w g (rtv v e a n c)) : w.cell? ⟨g, 0, none⟩ = some (.int .i64 v) ∧ w.cell? ⟨g, 1, none⟩ = some (.int .i64 e) ∧ w.cell? ⟨g, 2, none⟩ = some (.slice a n c) := ⟨h.cell (k := 0) rfl, h.cell (k := 1) rfl, h.cell (k := 2) rfl⟩
theorem rtv_ne (v e : Int) (a : Option Addr) (n c : Nat) : rtv v e a n c ≠ [] := by simp [rtv]
structure KpRt (w : World) (g : Nat) (v e : Int) (a : Option Addr) (n c : Nat) (rs : List RoleV) (w' : World) : Prop where
  below : Below w.heap.size w w'
  row : RowV w' g (rtv v e a n c)
  rl : RlsAt w' a rs
theorem KpRt.call {w w' w2 : World} {g : Nat} {v e : Int} {a : Option Addr} {n c : Nat} {rs : List RoleV} (h : Hid (KpRt w g v e a n c rs w')) (hb : Below w'.heap.size w' w2) : Hid (KpRt w g v e a n c rs w2) :=
  ⟨h.out.below.trans (hb.mono h.out.below.size), h.out.row.below hb (h.out.row.lt (rtv_ne _ _ _ _ _)), h.out.rl.below hb⟩
end Go.Proofs.YtchfpiadfmnphaaDoor
namespace Go.Proofs.YtchfpiadfmnphaaDoor
open Go.RowKit
set_option linter.unusedVariables false

theorem IAt.ai {w : World} {a : Option Addr} {l : List Int} (h : IAt w a l) : AI w a l := fun k hk => by
  obtain ⟨g, ha, hc⟩ := h (fun e => by rw [e] at hk; exact absurd hk (Nat.not_lt_zero _))
  exact ⟨g, 0, ha, by rw [Nat.zero_add]; exact (hc k hk).1⟩
theorem AI.other {w w' : World} {g b : Nat} {l : List Int} (h : AI w (some ⟨b, 0, none⟩) l) (hF : ∀ x : Addr, x.block ≠ g → w'.cell? x = w.cell? x ∧ w'.frozen? x = w.frozen? x) (hne : b ≠ g) : AI w' (some ⟨b, 0, none⟩) l := fun k hk => by
  obtain ⟨b', o', h1, h2⟩ := h k hk
  injection h1 with h1
  injection h1 with e1 e2
  subst e1 e2
  exact ⟨b, 0, rfl, ((hF _ hne).1).trans h2⟩
theorem set_other {w : World} {g o : Nat} {l : List Value} : ∀ x : Addr, x.block ≠ g → (w.setCells g o l).cell? x = w.cell? x ∧ (w.setCells g o l).frozen? x = w.frozen? x :=
  fun x hx => ⟨World.cell?_setCells_out g _ _ _ x (fun e => absurd e hx), World.frozen?_setCells g _ _ _ x⟩
theorem Tryd.size1Int : (Tryd.prog.info? 2).map (·.size) = some 1 := by kernel_rfl
theorem Tryd.size1Is : (Tryd.prog.info? 75).map (·.size) = some 1 := by kernel_rfl
theorem rlv_one (z : Int) (a : Option Addr) (n c : Nat) : ∀ v ∈ rlv z a n c, v.oneCell' = true := by
  intro v hv
  simp [rlv] at hv
  rcases hv with h | h <;> (rw [h]; rfl)
theorem rlv_ne (z : Int) (a : Option Addr) (n c : Nat) : rlv z a n c ≠ [] := by simp [rlv]
theorem rtv_one (v e : Int) (a : Option Addr) (n c : Nat) : ∀ x ∈ rtv v e a n c, x.oneCell' = true := by
  intro v hv
  simp [rtv] at hv
  rcases hv with h | h | h <;> (rw [h]; rfl)
def RoleV.key (r : RoleV) : Int × List Int := (r.need, r.ks)
def rkeys (rs : List RoleV) : List (Int × List Int) := rs.map RoleV.key
theorem rkeys_get {rs rs' : List RoleV} (h : rkeys rs = rkeys rs') {i : Nat} (h1 : i < rs.length) (h2 : i < rs'.length) : rs[i].need = rs'[i].need ∧ rs[i].ks = rs'[i].ks := by
  have : (rkeys rs)[i]? = (rkeys rs')[i]? := by rw [h]
  unfold rkeys at this
  rw [List.getElem?_map, List.getElem?_map, List.getElem?_eq_getElem h1, List.getElem?_eq_getElem h2] at this
  have := Option.some.inj this
  unfold RoleV.key at this
  exact ⟨congrArg Prod.fst this, congrArg Prod.snd this⟩
theorem rkeys_len {rs rs' : List RoleV} (h : rkeys rs = rkeys rs') : rs.length = rs'.length := by
  have := congrArg List.length h
  unfold rkeys at this
  rwa [List.length_map, List.length_map] at this
theorem rolesB_rkeys (rs : List RoleV) : rolesB rs = (rkeys rs).all (fun x => roleB x.1 x.2) := by
  unfold rolesB rkeys
  rw [List.all_map]
  rfl
theorem rootB_rkeys {v e : Int} {rs rs' : List RoleV} (h : rkeys rs = rkeys rs') : rootB v e rs = rootB v e rs' := by
  unfold rootB
  rw [rkeys_len h, rolesB_rkeys rs, rolesB_rkeys rs', h]
theorem roleW_rkeys {rs rs' : List RoleV} (h : rkeys rs = rkeys rs') (hw : ∀ r ∈ rs, RoleW r) : ∀ r ∈ rs', RoleW r := fun r hr => by
  obtain ⟨i, hi, rfl⟩ := List.mem_iff_getElem.1 hr
  have hl := rkeys_len h
  obtain ⟨h1, h2⟩ := rkeys_get h (by omega) hi
  have := hw _ (List.getElem_mem (show i < rs.length by omega))
  unfold RoleW at *
  rwa [h1, h2] at this
theorem rkeys_snoc {rs rs' : List RoleV} {r : RoleV} {k : Nat} (h : rkeys rs' = rkeys (rs.take k)) (hk : k < rs.length) (h1 : r.need = rs[k].need) (h2 : r.ks = rs[k].ks) : rkeys (rs' ++ [r]) = rkeys (rs.take (k + 1)) := by
  rw [List.take_succ_eq_append_getElem hk]
  unfold rkeys at *
  rw [List.map_append, List.map_append, h]
  congr 1
  show [r.key] = [rs[k].key]
  unfold RoleV.key
  rw [h1, h2]
structure KpZ (w : World) (a : Option Addr) (rs : List RoleV) (w' : World) : Prop where
  below : Below w.heap.size w w'
  rl : RlsAt w' a rs
theorem KpZ.start {w : World} {a : Option Addr} {rs : List RoleV} (h : RlsAt w a rs) : Hid (KpZ w a rs w) := ⟨Below.refl _ _, h⟩
theorem KpZ.call {w w' w2 : World} {a : Option Addr} {rs : List RoleV} (h : Hid (KpZ w a rs w')) (hb : Below w'.heap.size w' w2) : Hid (KpZ w a rs w2) := ⟨h.out.below.trans (hb.mono h.out.below.size), h.out.rl.below hb⟩
end Go.Proofs.YtchfpiadfmnphaaDoor
