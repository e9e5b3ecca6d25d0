/- The laws' helpers of what is signed: how much room it takes, turned to the program's, held against another. -/
import Derived.Test.YtdfglpbappeoaaaJn9
import Derived.Test.YtdfglpbappeoaaaBld
namespace Go.Proofs.Ytdfglpbappeoaaa
open Go.RowKit
set_option linter.unusedVariables false
theorem Try.infoSg : (Try.prog.info? 113).map (fun i => (i.zero, i.size, i.bytes)) = some (some (.agg #[.int .i64 0, .int .i64 0, .int .i64 0]), 3, 24) := by kernel_rfl
theorem Try.infoSd : (Try.prog.info? 67).map (fun i => i.zero) = some (some (.agg (sgv ⟨#[]⟩ none 0 0).toArray)) := by kernel_rfl
theorem Try.undSd : ∃ d, Try.prog.underlying 67 = some d ∧ d.isRow = true := ⟨_, Try.underlying67, rfl⟩
theorem Try.sizeSd : (Try.prog.info? 67).map (·.size) = some 2 := by kernel_rfl
def sgL (l : List SigV) : List (List Value) := l.map fun x => svs x.k x.e x.s
theorem sgL_len (l : List SigV) : (sgL l).length = l.length := List.length_map _
theorem sgL_get {l : List SigV} {i : Nat} (h : i < l.length) : (sgL l)[i]'(by rw [sgL_len]; exact h) = svs l[i].k l[i].e l[i].s := by unfold sgL; rw [List.getElem_map]
theorem sgL_all (l : List SigV) : ∀ x ∈ sgL l, x.length = 3 := fun x hx => by
  unfold sgL at hx
  obtain ⟨y, _, rfl⟩ := List.mem_map.1 hx
  rfl
theorem BldV.sgs {w : World} {g n : Nat} {l : List SigV} (h : BldV w g 3 n (sgL l) n) (hn : l.length = n) : SgsAt w (some ⟨g, 0, none⟩) l := fun i hi => by
  have h1 := h.rng i (by rw [sgL_len]; exact hi) (by omega)
  rw [sgL_get hi] at h1
  refine ⟨g, 0, rfl, ?_, ?_, ?_⟩
  · rw [Nat.zero_add]; exact h1 0 _ rfl
  · rw [Nat.zero_add]; exact h1 1 _ rfl
  · rw [Nat.zero_add]; exact h1 2 _ rfl
structure KpTo (w : World) (a : Option Addr) (l : List SigV) (g n k : Nat) (w' : World) : Prop where
  below : Below w.heap.size w w'
  sg : SgsAt w' a l
  bld : BldV w' g 3 n (sgL l) k
  lt : g < w'.heap.size
  ge : w.heap.size ≤ g
theorem KpTo.call {w w' w2 : World} {a : Option Addr} {l : List SigV} {g n k : Nat} (h : Hid (KpTo w a l g n k w')) (hb : Below w'.heap.size w' w2) : Hid (KpTo w a l g n k w2) :=
  ⟨h.out.below.trans (hb.mono h.out.below.size), h.out.sg.below hb, h.out.bld.below hb h.out.lt, Nat.lt_of_lt_of_le h.out.lt hb.size, h.out.ge⟩
theorem KpTo.there {w w' : World} {a : Option Addr} {l : List SigV} {g n k : Nat} (h : Hid (KpTo w a l g n k w')) (hk : k < n) : w'.there g (k * 3) 3 := there_part h.out.bld.ths hk
theorem KpTo.step {w w' : World} {a : Option Addr} {l : List SigV} {g n k : Nat} {x y z : Int} (h : Hid (KpTo w a l g n k w')) (h0 : Hid (SgsAt w a l)) (hk : k < n) (hn : l.length = n) (he : Hid (True → ∃ h : k < l.length, svs l[k].k l[k].e l[k].s = svs x y z)) : Hid (KpTo w a l g n (k + 1) (w'.setCells g (k * 3) (svs x y z))) := by
  obtain ⟨hkl, he⟩ := he.out trivial
  have hb : Below w.heap.size w (w'.setCells g (k * 3) (svs x y z)) := h.out.below.trans (below_set h.out.ge)
  refine ⟨hb, h0.out.below hb, ?_, by rw [setCells_size]; exact h.out.lt, h.out.ge⟩
  rw [← he, ← sgL_get hkl]
  exact h.out.bld.step hk (by rw [sgL_len]; exact hkl) (sgL_all l)
theorem SgsAt.far {w w' : World} {g b : Nat} {l : List SigV} (h : SgsAt w (some ⟨b, 0, none⟩) l) (hF : ∀ x : Addr, x.block ≠ g → w'.cell? x = w.cell? x ∧ w'.frozen? x = w.frozen? x) (hne : b ≠ g) : SgsAt w' (some ⟨b, 0, none⟩) l := fun i hi => by
  obtain ⟨b', o', h1, h2, h3, h4⟩ := h i hi
  injection h1 with h1
  injection h1 with e1 e2
  subst e1 e2
  exact ⟨b, 0, rfl, ((hF _ hne).1).trans h2, ((hF _ hne).1).trans h3, ((hF _ hne).1).trans h4⟩
theorem Try.size1Str : (Try.prog.info? 9).map (·.size) = some 1 := by kernel_rfl
theorem Try.size1Sgs : (Try.prog.info? 65).map (·.size) = some 1 := by kernel_rfl
theorem sgv_one (t : ByteArray) (a : Option Addr) (n c : Nat) : ∀ v ∈ sgv t a n c, v.oneCell' = true := by
  intro v hv
  simp [sgv] at hv
  rcases hv with h | h <;> (rw [h]; rfl)
structure KpE2 (w : World) (a1 a2 : Option Addr) (l : List SigV) (w' : World) : Prop where
  below : Below w.heap.size w w'
  s1 : SgsAt w' a1 l
  s2 : SgsAt w' a2 l
theorem KpE2.start {w : World} {a1 a2 : Option Addr} {l : List SigV} (h1 : SgsAt w a1 l) (h2 : SgsAt w a2 l) : Hid (KpE2 w a1 a2 l w) := ⟨Below.refl _ _, h1, h2⟩
theorem KpE2.call {w w' w2 : World} {a1 a2 : Option Addr} {l : List SigV} (h : Hid (KpE2 w a1 a2 l w')) (hb : Below w'.heap.size w' w2) : Hid (KpE2 w a1 a2 l w2) := ⟨h.out.below.trans (hb.mono h.out.below.size), h.out.s1.below hb, h.out.s2.below hb⟩
theorem KpE2.drew {w w' : World} {a1 a2 : Option Addr} {l : List SigV} (h : Hid (KpE2 w a1 a2 l w')) : Hid (KpE2 w a1 a2 l w'.drew) := ⟨h.out.below.drew, h.out.s1, h.out.s2⟩
theorem KpE2.six {w w' : World} {b1 o1 b2 o2 i : Nat} {l : List SigV} {x y z : Int} (hr : Hid (True → ∃ h : i < l.length, l[i].k = x ∧ l[i].e = y ∧ l[i].s = z)) (h : Hid (KpE2 w (some ⟨b1, o1, none⟩) (some ⟨b2, o2, none⟩) l w')) :
    w'.cell? ⟨b1, o1 + i * 3, none⟩ = some (.int .i64 x) ∧ w'.cell? ⟨b1, o1 + i * 3 + 1, none⟩ = some (.int .i64 y) ∧ w'.cell? ⟨b1, o1 + i * 3 + 2, none⟩ = some (.int .i64 z) ∧ w'.cell? ⟨b2, o2 + i * 3, none⟩ = some (.int .i64 x) ∧ w'.cell? ⟨b2, o2 + i * 3 + 1, none⟩ = some (.int .i64 y) ∧ w'.cell? ⟨b2, o2 + i * 3 + 2, none⟩ = some (.int .i64 z) ∧ Hid (KpE2 w (some ⟨b1, o1, none⟩) (some ⟨b2, o2, none⟩) l w') := by
  obtain ⟨hi, rfl, rfl, rfl⟩ := hr.out trivial
  obtain ⟨b', o', h1, h2, h3, h4⟩ := h.out.s1 i hi
  injection h1 with h1
  injection h1 with e1 e2
  subst e1 e2
  obtain ⟨b', o', k1, k2, k3, k4⟩ := h.out.s2 i hi
  injection k1 with k1
  injection k1 with e1 e2
  subst e1 e2
  exact ⟨h2, h3, h4, k2, k3, k4, h⟩
end Go.Proofs.Ytdfglpbappeoaaa
