/- The laws' helpers szInt64S, toInt64S, szHash, toHash: what they answer of a slice of numbers that came in. -/
import Derived.Test.YtaalegjhhpfhbaaHashB
import Derived.OwnWalk
namespace Go.Proofs.Ytaalegjhhpfhbaa
open Go.RowKit
set_option linter.unusedVariables false

def AI (w : World) (a : Option Addr) (l : List Int) : Prop := ∀ k (h : k < l.length), ∃ b o, a = some ⟨b, o, none⟩ ∧ w.cell? ⟨b, o + k, none⟩ = some (.int .i64 l[k])
theorem AI.below {w w' : World} {a : Option Addr} {l : List Int} (h : AI w a l) (hb : Below w.heap.size w w') : AI w' a l := fun k hk => by
  obtain ⟨b, o, ha, hc⟩ := h k hk
  exact ⟨b, o, ha, (hb.cell (p := ⟨b, o + k, none⟩) (cellLt hc)).trans hc⟩
theorem IAt.set {w : World} {g k : Nat} {l l' : List Int} {x : Int} (h : IAt w (some ⟨g, 0, none⟩) l) (hk : k < l.length) (hl : l' = l.set k x) : IAt (w.setCell ⟨g, k, none⟩ (.int .i64 x)) (some ⟨g, 0, none⟩) l' := fun _ => by
  subst hl
  obtain ⟨g', hg', hc⟩ := h (by intro e; rw [e] at hk; simp at hk)
  injection hg' with hg'
  injection hg' with hg'
  subst hg'
  refine ⟨g, rfl, fun j hj => ?_⟩
  have hj' : j < l.length := by simpa using hj
  rw [World.frozen?_setCell]
  refine ⟨?_, (hc j hj').2⟩
  by_cases hjk : j = k
  · subst hjk
    rw [World.cell?_setCell_same w _ _ (hc j hk).1]
    simp
  · rw [World.cell?_setCell_other w _ _ _ (by intro e; injection e with _ e _; exact hjk e.symm), (hc j hj').1]
    rw [List.getElem_set_ne (fun e => hjk e.symm)]
theorem RowV.setAt {w : World} {g k : Nat} {l l' : List Value} {v : Value} (h : RowV w g l) (hk : k < l.length) (hl : l' = l.set k v) : RowV (w.setCell ⟨g, k, none⟩ v) g l' := by
  subst hl
  obtain ⟨u, hu⟩ : ∃ u, w.cell? ⟨g, k, none⟩ = some u := ⟨l[k], h.cell (List.getElem?_eq_getElem hk)⟩
  refine ⟨fun j x hx => ?_, fun j hj => ⟨?_, ?_⟩⟩
  · rw [Nat.zero_add]
    by_cases hjk : j = k
    · subst hjk
      rw [World.cell?_setCell_same w _ _ hu]
      simpa [hk] using hx
    · rw [World.cell?_setCell_other w _ _ _ (by intro e; injection e with _ e _; exact hjk e.symm)]
      exact h.cell (by rw [← hx, List.getElem?_set_ne (fun e => hjk e.symm)])
  · rw [Nat.zero_add]
    by_cases hjk : j = k
    · subst hjk
      rw [World.cell?_setCell_same w _ _ hu]; rfl
    · rw [World.cell?_setCell_other w _ _ _ (by intro e; injection e with _ e _; exact hjk e.symm)]
      have := (h.ths j (by simpa using hj)).1
      rw [Nat.zero_add] at this
      exact this
  · rw [World.frozen?_setCell]
    exact (h.ths j (by simpa using hj)).2
theorem Try.infoNum : (Try.prog.info? 2).map (fun i => (i.zero, i.size, i.bytes)) = some (some (.int .i64 0), 1, 8) := by kernel_rfl
theorem made_zeroI (n : Nat) : (madeCells #[Value.int .i64 0] n).toList = (List.replicate n (0 : Int)).map (Value.int .i64) := by
  apply List.ext_getElem
  · simp [madeCells]
  · intro i h1 h2
    simp [madeCells, Nat.mod_one]
theorem IAt.made {w : World} {base e g n : Nat} {xs : List Value} (h : w.ownsRow base e 1 (.slice (some ⟨g, 0, none⟩) n n) n xs) (hx : xs = (List.replicate n (0 : Int)).map (Value.int .i64)) : IAt w (some ⟨g, 0, none⟩) (List.replicate n 0) := by
  rcases h.2 with ⟨h1, _⟩ | ⟨g', cap, cur, hv, hbg, hg, hnc, hcm, hcs, htake⟩
  · simp at h1
  · simp at hv
    obtain ⟨rfl, rfl⟩ := hv
    have : cur.toList = xs := by rw [← htake, List.take_of_length_le (by simp [hcs])]
    refine IAt.of_block (t := e) ?_
    rw [hg, ← hx, ← this]
theorem copy_set (l : List Int) {k : Nat} (hk : k < l.length) : l.take (k + 1) ++ List.replicate (l.length - (k + 1)) 0 = (l.take k ++ List.replicate (l.length - k) 0).set k l[k] := by
  rw [List.set_append_right _ _ (by rw [List.length_take]; omega), List.length_take, Nat.min_eq_left (by omega), Nat.sub_self]
  obtain ⟨d, hd⟩ : ∃ d, l.length - k = d + 1 := ⟨l.length - k - 1, by omega⟩
  rw [hd, show l.length - (k + 1) = d by omega, List.replicate_succ, List.set_cons_zero, List.take_succ_eq_append_getElem hk, List.append_assoc]
  rfl

end Go.Proofs.Ytaalegjhhpfhbaa
