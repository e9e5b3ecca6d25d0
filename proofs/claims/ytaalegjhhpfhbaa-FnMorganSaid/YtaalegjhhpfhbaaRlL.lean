/- The laws' helpers of roles and roots: how much room they take, turned to the program's, held against others. -/
import Derived.Test.YtaalegjhhpfhbaaMetR
import Derived.Test.YtaalegjhhpfhbaaBld
namespace Go.Proofs.Ytaalegjhhpfhbaa
open Go.RowKit
set_option linter.unusedVariables false

theorem IAt.ai {w : World} {a : Option Addr} {l : List Int} (h : IAt w a l) : AI w a l := fun k hk => by
  obtain ⟨g, ha, hc⟩ := h (fun e => by rw [e] at hk; exact absurd hk (Nat.not_lt_zero _))
  exact ⟨g, 0, ha, by rw [Nat.zero_add]; exact (hc k hk).1⟩
theorem AI.other {w w' : World} {g b : Nat} {l : List Int} (h : AI w (some ⟨b, 0, none⟩) l) (hF : ∀ x : Addr, x.block ≠ g → w'.cell? x = w.cell? x ∧ w'.frozen? x = w.frozen? x) (hne : b ≠ g) : AI w' (some ⟨b, 0, none⟩) l := fun k hk => by
  obtain ⟨b', o', h1, h2⟩ := h k hk
  injection h1 with h1
  injection h1 with e1 e2
  subst e1 e2
  exact ⟨b, 0, rfl, ((hF _ hne).1).trans h2⟩
theorem set_other {w : World} {g o : Nat} {l : List Value} : ∀ x : Addr, x.block ≠ g → (w.setCells g o l).cell? x = w.cell? x ∧ (w.setCells g o l).frozen? x = w.frozen? x :=
  fun x hx => ⟨World.cell?_setCells_out g _ _ _ x (fun e => absurd e hx), World.frozen?_setCells g _ _ _ x⟩
theorem Try.infoRl : (Try.prog.info? 134).map (fun i => (i.zero, i.size, i.bytes)) = some (some (.agg #[.int .i64 0, .slice none 0 0]), 2, 32) := by kernel_rfl
theorem Try.infoRlz : (Try.prog.info? 134).map (fun i => i.zero) = some (some (.agg (rlv 0 none 0 0).toArray)) := by kernel_rfl
theorem Try.undRl : ∃ d, Try.prog.underlying 134 = some d ∧ d.isRow = true := ⟨_, Try.underlying134, rfl⟩
theorem Try.sizeRl : (Try.prog.info? 134).map (·.size) = some 2 := by kernel_rfl
theorem Try.infoRtz : (Try.prog.info? 45).map (fun i => i.zero) = some (some (.agg (rtv 0 0 none 0 0).toArray)) := by kernel_rfl
theorem Try.undRt : ∃ d, Try.prog.underlying 45 = some d ∧ d.isRow = true := ⟨_, Try.underlying45, rfl⟩
theorem Try.sizeRt : (Try.prog.info? 45).map (·.size) = some 3 := by kernel_rfl
theorem Try.size1Int : (Try.prog.info? 2).map (·.size) = some 1 := by kernel_rfl
theorem Try.size1Is : (Try.prog.info? 132).map (·.size) = some 1 := by kernel_rfl
theorem Try.size1Rls : (Try.prog.info? 43).map (·.size) = some 1 := by kernel_rfl
theorem rlv_one (z : Int) (a : Option Addr) (n c : Nat) : ∀ v ∈ rlv z a n c, v.oneCell' = true := by
  intro v hv
  simp [rlv] at hv
  rcases hv with h | h <;> (rw [h]; rfl)
theorem rlv_ne (z : Int) (a : Option Addr) (n c : Nat) : rlv z a n c ≠ [] := by simp [rlv]
theorem rtv_one (v e : Int) (a : Option Addr) (n c : Nat) : ∀ x ∈ rtv v e a n c, x.oneCell' = true := by
  intro v hv
  simp [rtv] at hv
  rcases hv with h | h | h <;> (rw [h]; rfl)
def RoleV.key (r : RoleV) : Int × List Int := (r.need, r.ks)
def rkeys (rs : List RoleV) : List (Int × List Int) := rs.map RoleV.key
theorem rkeys_get {rs rs' : List RoleV} (h : rkeys rs = rkeys rs') {i : Nat} (h1 : i < rs.length) (h2 : i < rs'.length) : rs[i].need = rs'[i].need ∧ rs[i].ks = rs'[i].ks := by
  have : (rkeys rs)[i]? = (rkeys rs')[i]? := by rw [h]
  unfold rkeys at this
  rw [List.getElem?_map, List.getElem?_map, List.getElem?_eq_getElem h1, List.getElem?_eq_getElem h2] at this
  have := Option.some.inj this
  unfold RoleV.key at this
  exact ⟨congrArg Prod.fst this, congrArg Prod.snd this⟩
theorem rkeys_len {rs rs' : List RoleV} (h : rkeys rs = rkeys rs') : rs.length = rs'.length := by
  have := congrArg List.length h
  unfold rkeys at this
  rwa [List.length_map, List.length_map] at this
theorem rolesB_rkeys (rs : List RoleV) : rolesB rs = (rkeys rs).all (fun x => roleB x.1 x.2) := by
  unfold rolesB rkeys
  rw [List.all_map]
  rfl
theorem rootB_rkeys {v e : Int} {rs rs' : List RoleV} (h : rkeys rs = rkeys rs') : rootB v e rs = rootB v e rs' := by
  unfold rootB
  rw [rkeys_len h, rolesB_rkeys rs, rolesB_rkeys rs', h]
theorem roleW_rkeys {rs rs' : List RoleV} (h : rkeys rs = rkeys rs') (hw : ∀ r ∈ rs, RoleW r) : ∀ r ∈ rs', RoleW r := fun r hr => by
  obtain ⟨i, hi, rfl⟩ := List.mem_iff_getElem.1 hr
  have hl := rkeys_len h
  obtain ⟨h1, h2⟩ := rkeys_get h (by omega) hi
  have := hw _ (List.getElem_mem (show i < rs.length by omega))
  unfold RoleW at *
  rwa [h1, h2] at this
theorem rkeys_snoc {rs rs' : List RoleV} {r : RoleV} {k : Nat} (h : rkeys rs' = rkeys (rs.take k)) (hk : k < rs.length) (h1 : r.need = rs[k].need) (h2 : r.ks = rs[k].ks) : rkeys (rs' ++ [r]) = rkeys (rs.take (k + 1)) := by
  rw [List.take_succ_eq_append_getElem hk]
  unfold rkeys at *
  rw [List.map_append, List.map_append, h]
  congr 1
  show [r.key] = [rs[k].key]
  unfold RoleV.key
  rw [h1, h2]
structure KpZ (w : World) (a : Option Addr) (rs : List RoleV) (w' : World) : Prop where
  below : Below w.heap.size w w'
  rl : RlsAt w' a rs
theorem KpZ.start {w : World} {a : Option Addr} {rs : List RoleV} (h : RlsAt w a rs) : Hid (KpZ w a rs w) := ⟨Below.refl _ _, h⟩
theorem KpZ.call {w w' w2 : World} {a : Option Addr} {rs : List RoleV} (h : Hid (KpZ w a rs w')) (hb : Below w'.heap.size w' w2) : Hid (KpZ w a rs w2) := ⟨h.out.below.trans (hb.mono h.out.below.size), h.out.rl.below hb⟩
end Go.Proofs.Ytaalegjhhpfhbaa
