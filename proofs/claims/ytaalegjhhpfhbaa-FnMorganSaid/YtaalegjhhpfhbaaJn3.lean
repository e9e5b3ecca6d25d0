/- What stands while draws are taken: the source among the things; a draw leaves all else. A drawn Key or Value of a policy. -/
import Derived.Test.YtaalegjhhpfhbaaStaL
import Derived.Test.YtaalegjhhpfhbaaJn1
import Derived.Test.YtaalegjhhpfhbaaSrcP
namespace Go.Proofs.Ytaalegjhhpfhbaa
open Go.RowKit
set_option linter.unusedVariables false

theorem grown_one {w w2 : World} {g : Nat} (hg : w.grownBy w2 (some g)) : Mrk (fun k => k = g) w w2 :=
  ⟨fun k hk hn => hg.block k hk (fun e => by injection e with e; exact hn e), fun B hB hb => ⟨hg.os, hg.tape, hg.output, hg.size, fun k hk => hg.block k (Nat.lt_of_lt_of_le hk hB) (fun e => by injection e with e; have := hb g rfl; omega)⟩, hg.size⟩
section
variable {G : List Nat} {w0 w w2 : World} {R : List (Nat × List Value)} {T : List Thing} {g len cap : Nat} {a : Option Addr}
theorem Sta.draw {t : Thing} (i : Nat) (h : Hid (Sta G w0 R T w)) (hi : T[i]? = some t) (hgr : w.grownBy w2 (some g)) (hd : t.dom g) (hG : g ∈ G ∨ w0.heap.size ≤ g) (hP : ∀ w3, Mrk (fun k => ¬ t.dom k) w2 w3 → t.P w3) : Hid (Sta G w0 R T w2) := by
  obtain ⟨hlt, he⟩ := List.getElem?_eq_some_iff.1 hi
  have hmem : t ∈ T := he ▸ List.getElem_mem hlt
  have hm := grown_one hgr
  refine ⟨h.out.bel.step ⟨hgr.os, hgr.tape, hgr.output, hgr.size, fun k hk => absurd hk (Nat.not_lt_zero _)⟩ fun k hk hn => hgr.block k (Nat.lt_of_lt_of_le hk h.out.bel.size) (fun e => ?_), fun x hx => ⟨(h.out.row x hx).1, (h.out.row x hx).2.1, hm.row (h.out.row x hx).2.2 (h.out.row x hx).2.1 fun hd2 => h.out.off x hx t hmem (by rw [show x.1 = g from hd2]; exact hd)⟩, fun s hs => ?_, h.out.dif, h.out.dis, h.out.off⟩
  · injection e with e
    subst e
    rcases hG with h1 | h1
    · exact hn h1
    · omega
  · obtain ⟨j, hj, rfl⟩ := List.mem_iff_getElem.1 hs
    by_cases e : j = i
    · subst e
      rw [he]
      exact ⟨fun k hk => Nat.lt_of_lt_of_le ((h.out.thg t hmem).lt k hk) hgr.size, hP⟩
    · refine (h.out.thg _ hs).chg hm fun k hk hd2 => ?_
      rw [show k = g from hk] at hd2
      rcases Nat.lt_or_gt_of_ne e with h1 | h1
      · have := List.pairwise_iff_getElem.1 h.out.dis j i hj hlt h1 g hd2
        rw [he] at this
        exact this hd
      · have := List.pairwise_iff_getElem.1 h.out.dis i j hlt hj h1 g
        rw [he] at this
        exact this hd hd2
theorem src_stays {B : Nat} (hs : SrcAt w2 g a len cap) (hB : B ≤ w2.heap.size) (hgB : g < B) : ∀ w3, Mrk (fun k => ¬ k < B) w2 w3 → SrcAt w3 g a len cap := fun w3 hm =>
  hs.below (hm.below B hB (fun b hb => Nat.le_of_not_lt hb)) hgB
theorem bound_le {B n : Nat} (h : ∀ k, k < B → k < n) : B ≤ n := by
  cases B with
  | zero => exact Nat.zero_le _
  | succ B => exact h B (Nat.lt_succ_self B)
theorem Sta.src {B : Nat} (i : Nat) (h : Hid (Sta G w0 R T w)) (hi : T[i]? = some ⟨fun k => k < B, fun w' => SrcAt w' g a len cap⟩) (hgr : w.grownBy w2 (some g)) (hs : SrcAt w2 g a len cap) (hgB : g < B) (hG : g ∈ G ∨ w0.heap.size ≤ g) : Hid (Sta G w0 R T w2) := by
  obtain ⟨hlt, he⟩ := List.getElem?_eq_some_iff.1 hi
  have hmem : (⟨fun k => k < B, fun w' => SrcAt w' g a len cap⟩ : Thing) ∈ T := he ▸ List.getElem_mem hlt
  exact Sta.draw i h hi hgr hgB hG (src_stays hs (Nat.le_trans (bound_le (h.out.thg _ hmem).lt) hgr.size) hgB)
/- The same, and something that has been made by the way. -/
theorem Sta.srcMade {B : Nat} {P : World → Prop} (i : Nat) (h : Hid (Sta G w0 R T w)) (hi : T[i]? = some ⟨fun k => k < B, fun w' => SrcAt w' g a len cap⟩) (hgr : w.grownBy w2 (some g)) (hs : SrcAt w2 g a len cap) (hgB : g < B) (hG : g ∈ G ∨ w0.heap.size ≤ g) (hP : Made w w2 P) : Hid (Sta G w0 R (⟨fun k => w.heap.size ≤ k ∧ k < w2.heap.size, P⟩ :: T) w2) := by
  have h2 := (Sta.src i h hi hgr hs hgB hG).out
  refine ⟨h2.bel, h2.row, fun t ht => ?_, h2.dif, List.pairwise_cons.2 ⟨fun t ht k hk hd => ?_, h2.dis⟩, fun x hx t ht hd => ?_⟩
  · rcases List.mem_cons.1 ht with rfl | ht
    · exact ⟨fun k hk => hk.2, hP⟩
    · exact h2.thg t ht
  · have := (h.out.thg t ht).lt k hd
    have := hk.1
    omega
  · rcases List.mem_cons.1 ht with rfl | ht
    · have := (h.out.row x hx).2.2.lt (h.out.row x hx).2.1
      have : w.heap.size ≤ x.1 := hd.1
      omega
    · exact h2.off x hx t ht hd
/- Behind l01Source. -/
theorem Sta.srcStart (hb : Below w.heap.size w w2) (hs : SrcAt w2 g a len cap) : Hid (Sta [] w [] [⟨fun k => k < w2.heap.size, fun w' => SrcAt w' g a len cap⟩] w2) := by
  refine ⟨⟨hb.mono (Nat.zero_le _), fun k hk _ => hb.block k hk⟩, fun x hx => (by cases hx), fun t ht => ?_, .nil, List.pairwise_singleton .., fun x hx => (by cases hx)⟩
  cases List.mem_singleton.1 ht
  exact ⟨fun k hk => hk, src_stays hs (Nat.le_refl _) hs.room⟩
/- A method of the source. -/
theorem Sta.srcRecv (hs : SrcAt w g a len cap) : Hid (Sta [g] w [] [⟨fun k => k < w.heap.size, fun w' => SrcAt w' g a len cap⟩] w) := by
  refine ⟨Kpt.refl _ _, fun x hx => (by cases hx), fun t ht => ?_, .nil, List.pairwise_singleton .., fun x hx => (by cases hx)⟩
  cases List.mem_singleton.1 ht
  exact ⟨fun k hk => hk, src_stays hs (Nat.le_refl _) hs.room⟩
theorem Sta.grown (h : Hid (Sta [g] w0 R T w)) : w0.grownBy w (some g) :=
  ⟨h.out.bel.bel.os, h.out.bel.bel.tape, h.out.bel.bel.output, h.out.bel.bel.size, fun k hk hn => h.out.bel.blk k hk (by simp; exact fun e => hn (by rw [e]))⟩
end
end Go.Proofs.Ytaalegjhhpfhbaa
namespace Go.Proofs.Ytaalegjhhpfhbaa
open Go.RowKit
set_option linter.unusedVariables false

def names11 : List ByteArray := [⟨#[98, 121]⟩, ⟨#[108, 101, 118, 101, 108]⟩, ⟨#[111, 115]⟩, ⟨#[117, 115]⟩, ⟨#[98, 97, 100]⟩, ⟨#[97, 110, 100]⟩, ⟨#[104, 97, 115]⟩]
theorem names11_size : ∀ t ∈ names11, t.size ≤ 5 := by
  intro t ht
  simp only [names11, List.mem_cons, List.not_mem_nil, or_false] at ht
  rcases ht with rfl | rfl | rfl | rfl | rfl | rfl | rfl <;> decide
set_option maxRecDepth 100000 in
set_option maxHeartbeats 2000000 in
theorem name11_any (g len cap : Nat) (a : Option Addr) (w : World) (h : SrcAt w g a len cap) :
    Calls Try.prog 104 #[.pointer (some ⟨g, 0, none⟩)] w fun e w' => ∃ t : ByteArray, e = .returned (.string t) ∧ t.size ≤ 5 ∧ SrcAt w' g a len cap ∧ w.grownBy w' (some g) := by
  have HN : Hid (∀ w1, w1 = w.alloc (.cells (svl names11).toArray 9) → Calls Try.prog 116 #[.pointer (some ⟨g, 0, none⟩), .slice (some ⟨w.heap.size, 0, none⟩) 7 7] w1 fun e w' => ∃ t : ByteArray, e = .returned (.string t) ∧ t ∈ names11 ∧ SrcAt w' g a len cap ∧ w1.grownBy w' (some g)) := fun w1 e => by
    subst e
    have hb := below_alloc w (.cells (svl names11).toArray 9)
    exact pick_any g len cap 7 7 a (some ⟨w.heap.size, 0, none⟩) names11 _ (h.below hb h.room) rfl (by decide) (by decide) (RowV.new w (svl names11) 9).sa (fun x e => by injection e with e; rw [← e]; have := h.room; show w.heap.size ≠ g; omega)
  have HS : Hid (SrcAt w g a len cap) := h
  clear h
  go_enter Try.func104, Try.ntmps104
  go_wp2_with (first
    | (go_at_call 116; (refine (HN.out _ rfl).mono ?_); rintro e w1 ⟨t, rfl, ht, hs1, hg1⟩; have HT := hidP ht; have HG := hidP hg1; have HS1 := hidP hs1; clear hg1 hs1 ht))
  go_ret
  exact ⟨_, rfl, names11_size _ HT.out, HS1.out, ⟨HG.out.os, HG.out.tape, HG.out.output, Nat.le_trans (below_alloc w _).size HG.out.size, fun k hk hn => (HG.out.block k (Nat.lt_of_lt_of_le hk (below_alloc w _).size) hn).trans ((below_alloc w _).block k hk)⟩⟩
end Go.Proofs.Ytaalegjhhpfhbaa
