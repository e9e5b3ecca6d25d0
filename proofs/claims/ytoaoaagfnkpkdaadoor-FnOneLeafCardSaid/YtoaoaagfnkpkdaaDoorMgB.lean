/- The draws for trees: leaves, hashes; none changes what was there but the source. Hashes spoilt by a draw: told as a slice of texts of the call's own; nothing that was there changes but the source. InclusionProof and ConsistencyProof of the specification: the proof that is told is none, or lies in a block. The draws for InclusionCheck and ConsistencyCheck: what is told, and that nothing that was there changes. -/
import Derived.Test.YtoaoaagfnkpkdaaDoorMgA
import Derived.Test.YtoaoaagfnkpkdaaDoorOwnS
import Derived.Test.YtoaoaagfnkpkdaaDoorLf
import Derived.Laws.AppendOwnNone
import Derived.Test.YtoaoaagfnkpkdaaDoorPrf
namespace Go.Proofs.YtoaoaagfnkpkdaaDoor
open Go.RowKit
set_option linter.unusedVariables false

/- Leaves that were drawn: few, and short. -/
theorem own_mono {w : World} {b b' e size : Nat} {v : Value} {n : Nat} {xs : List Value} (h : w.ownsRow b e size v n xs) (hb : b' ≤ b) : w.ownsRow b' e size v n xs := by
  refine ⟨h.1, ?_⟩
  rcases h.2 with h0 | ⟨g, cap, cur, h1, h2, h3⟩
  · exact .inl h0
  · exact .inr ⟨g, cap, cur, h1, by omega, h3⟩
def slLen : Value → Nat
  | .slice _ n _ => n
  | _ => 0
structure Lvs (l : List ByteArray) : Prop where
  len : l.length ≤ 65
  small : ∀ x ∈ l, x.size ≤ 4
theorem Lvs.snoc {l : List ByteArray} {x : ByteArray} (h : ∀ y ∈ l, y.size ≤ 4) (hx : x.size ≤ 4) : ∀ y ∈ l ++ [x], y.size ≤ 4 := fun y hy => by
  rcases List.mem_append.1 hy with h1 | h1
  · exact h y h1
  · rw [List.mem_singleton.1 h1]; exact hx
theorem lit_sa (w : World) (x : ByteArray) (t : TypeId) : SA (w.alloc (.cells #[.string x] t)) (some ⟨w.heap.size, 0, none⟩) [x] := fun k hk => ⟨w.heap.size, 0, rfl, by
  have : k = 0 := by simpa using hk
  subst this
  simp⟩
set_option maxRecDepth 100000 in
set_option maxHeartbeats 2000000 in
theorem leaves_any (g len cap : Nat) (a : Option Addr) (w : World) (h : SrcAt w g a len cap) :
    Calls Tryd.prog 44 #[.pointer (some ⟨g, 0, none⟩)] w fun e w' => ∃ v l, e = .returned v ∧ v ≠ .slice none 0 0 ∧ Lvs l ∧ w'.ownsRow w.heap.size 9 1 v l.length (svl l) ∧ SrcAt w' g a len cap ∧ w.grownBy w' (some g) := by
  have HN : Hid (∀ (most : Int) w1, 0 < most → most ≤ 1000 → SrcAt w1 g a len cap → Calls Tryd.prog 62 #[.pointer (some ⟨g, 0, none⟩), .int .i64 most] w1 fun e w' => ∃ v : Int, e = .returned (.int .i64 v) ∧ 0 ≤ v ∧ v < most ∧ SrcAt w' g a len cap ∧ w1.grownBy w' (some g)) := fun most w1 k1 k2 h1 => n_any g len cap a most w1 h1 k1 (by omega)
  have HY : Hid (∀ (m : Nat) w1, m ≤ 1000 → SrcAt w1 g a len cap → Calls Tryd.prog 76 #[.pointer (some ⟨g, 0, none⟩), .int .i64 (m : Int)] w1 fun e w' => ∃ x : ByteArray, e = .returned (.string x) ∧ x.size = m ∧ SrcAt w' g a len cap ∧ w1.grownBy w' (some g)) := fun m w1 k1 h1 => bytes_any g len cap m a w1 h1 (by omega)
  have HO1 : Hid (∀ w1, SrcAt w1 g a len cap → Calls Tryd.prog 63 #[.pointer (some ⟨g, 0, none⟩), .int .i64 60] w1 fun e w' => ∃ b : Bool, Hid (e = .returned (.bool b) ∧ SrcAt w' g a len cap ∧ w1.grownBy w' (some g))) := fun w1 h1 => one_any g len cap a 60 w1 h1 (by omega) (by omega)
  have hgw := h.room
  have B1 : Below w.heap.size w (w.alloc (.cells #[] 9)) := (Below.refl _ _).alloc (Nat.le_refl _) _
  have hs1 : SrcAt (w.alloc (.cells #[] 9)) g a len cap := h.below B1 hgw
  obtain ⟨sz, hsz0, hsz1, hc3⟩ := hs1.c3
  have HS1 : Hid (SrcAt (w.alloc (.cells #[] 9)) g a len cap) := hs1
  have HW1 : Hid ((w.alloc (.cells #[] 9)).ownsRow w.heap.size 9 1 (.slice (some ⟨w.heap.size, 0, none⟩) 0 0) 0 (svl [])) := World.ownsRow_made w #[] 0 (Nat.le_refl _) (Nat.zero_le _) rfl
  have HG1 : Hid (w.grownBy (w.alloc (.cells #[] 9)) (some g)) := grownBy_below (World.grownBy.refl _ _) B1
  clear h hs1 B1
  go_enter Tryd.func44, Tryd.ntmps44
  go_wp2_with fail
  refine (HN.out (3 + 2 * sz) _ (by omega) (by omega) HS1.out).mono ?_
  rintro e w2 ⟨v, rfl, hv0, hv1, h1, h2⟩
  obtain ⟨k0, rfl⟩ := Int.eq_ofNat_of_zero_le hv0
  have HW2 : Hid (w2.ownsRow w.heap.size 9 1 (.slice (some ⟨w.heap.size, 0, none⟩) 0 0) 0 (svl [])) := HW1.out.kept h2 (Or.inr (by intro e; have := (HW1.out.lt _ e).1; omega))
  have HS2 : Hid (SrcAt w2 g a len cap) := h1
  have HG2 : Hid (w.grownBy w2 (some g)) := grownBy_trans HG1.out h2
  have hk0 : k0 ≤ 26 := by omega
  clear h1 h2 HS1 HW1 HG1 hc3
  go_wp2_with fail
  go_loopw [3, 4] (fun vl vk wr => ∃ (k : Nat) (l : List ByteArray), vk = .int .i64 (k : Int) ∧ k + l.length = k0 ∧ (∀ x ∈ l, x.size ≤ 4) ∧ vl ≠ .slice none 0 0 ∧ wr.ownsRow w.heap.size 9 1 vl l.length (svl l) ∧ SrcAt wr g a len cap ∧ w.grownBy wr (some g)) (fun _ vk _ => (intOf vk).toNat)
  case atStart => exact ⟨k0, [], rfl, by simp, fun x hx => by simp at hx, by simp, HW2.out, HS2.out, HG2.out⟩
  case round =>
    clear HS2 HW2 HG2
    obtain ⟨k, l, rfl, hkl, hsm, hnn, hown, hsrc, hgr⟩ := hrel
    have HSm : Hid (∀ x ∈ l, x.size ≤ 4) := hsm
    have HS : Hid (SrcAt wr g a len cap) := hsrc
    have HG : Hid (w.grownBy wr (some g)) := hgr
    have HO : Hid (wr.ownsRow w.heap.size 9 1 u3 l.length (svl l)) := hown
    have HV : Hid (u3 ≠ .slice none 0 0) := hnn
    clear hsm hsrc hgr hown hnn
    by_cases hk : 0 < k
    · have hk' : (0 : Int) < (k : Int) := by omega
      go_wp2_with fail
      refine (HN.out 4 _ (by omega) (by omega) HS.out).mono ?_
      rintro e w3 ⟨v, rfl, hv0, hv1, h1, h2⟩
      obtain ⟨m, rfl⟩ := Int.eq_ofNat_of_zero_le hv0
      have HO3 : Hid (w3.ownsRow w.heap.size 9 1 u3 l.length (svl l)) := HO.out.kept h2 (Or.inr (by intro e; have := (HO.out.lt _ e).1; omega))
      have HS3 : Hid (SrcAt w3 g a len cap) := h1
      have HG3 : Hid (w.grownBy w3 (some g)) := grownBy_trans HG.out h2
      clear h1 h2 HS HG HO
      go_wp2_with fail
      refine (HY.out m _ (by omega) HS3.out).mono ?_
      rintro e w4 ⟨x, rfl, hx, h1, h2⟩
      have HO4 : Hid (w4.ownsRow w.heap.size 9 1 u3 l.length (svl l)) := HO3.out.kept h2 (Or.inr (by intro e; have := (HO3.out.lt _ e).1; omega))
      have HS4 : Hid (SrcAt w4 g a len cap) := h1
      have HG4 : Hid (w.grownBy w4 (some g)) := grownBy_trans HG3.out h2
      have B5 : Below w4.heap.size w4 (w4.alloc (.cells #[.string x] 9)) := (Below.refl _ _).alloc (Nat.le_refl _) _
      have hO5 := own_below HO4.out B5
      have hx5 := lit_sa w4 x 9
      have hS5 : SrcAt (w4.alloc (.cells #[.string x] 9)) g a len cap := HS4.out.below B5 HS4.out.room
      have hG5 : w.grownBy (w4.alloc (.cells #[.string x] 9)) (some g) := grownBy_below HG4.out (B5.mono HG4.out.size)
      have HX5 : Hid (_ ∧ _ ∧ _ ∧ _) := ⟨hO5, hx5, hS5, hG5⟩
      have hz5 : w.heap.size ≤ (w4.alloc (.cells #[.string x] 9)).heap.size := hG5.size
      have hll : l.length + 1 ≤ 1000000 := by omega
      clear h1 h2 HS3 HG3 HO3 HS4 HG4 HO4 B5 hO5 hx5 hS5 hG5
      go_wp2_with (first
        | (at_builtin; refine wpList_append_strs rfl _ _ rfl w.heap.size u3 l.length 1 l [x] rfl HX5.out.1 w4.heap.size 0 1 rfl rfl HX5.out.2.1 hll hz5 ?_; intro v6 w6 hO6 hB6 hv6))
      have HO6 : Hid (w6.ownsRow w.heap.size 9 1 v6 (l ++ [x]).length (svl (l ++ [x]))) := by rw [List.length_append]; exact hO6
      have HS6 : Hid (SrcAt w6 g a len cap) := HX5.out.2.2.1.below hB6 hgw
      have HG6 : Hid (w.grownBy w6 (some g)) := grownBy_below HX5.out.2.2.2 hB6
      have HV6 : Hid (v6 ≠ .slice none 0 0) := hv6 HV.out
      have HSm6 : Hid (∀ y ∈ l ++ [x], y.size ≤ 4) := Lvs.snoc HSm.out (by omega)
      clear hO6 hB6 hv6 HX5 HV HSm
      go_wp2
      go_roundw
      case rel => exact ⟨k - 1, l ++ [x], by go_num, by rw [List.length_append]; simp; omega, HSm6.out, HV6.out, HO6.out, HS6.out, HG6.out⟩
      case measure => simp [intOf]; omega
    · obtain rfl : k = 0 := by omega
      have hlb : l.length ≤ 26 := by omega
      go_wp2_with fail
      refine (HO1.out _ HS.out).mono ?_
      rintro e w3 ⟨bb, rfl, h1, h2⟩
      have HO3 : Hid (w3.ownsRow w.heap.size 9 1 u3 l.length (svl l)) := HO.out.kept h2 (Or.inr (by intro e; have := (HO.out.lt _ e).1; omega))
      have HS3 : Hid (SrcAt w3 g a len cap) := h1
      have HG3 : Hid (w.grownBy w3 (some g)) := grownBy_trans HG.out h2
      clear h1 h2 HS HG HO HO1
      cases bb
      · go_wp2
        go_ret
        exact ⟨u3, l, rfl, HV.out, ⟨by omega, HSm.out⟩, HO3.out, HS3.out, HG3.out⟩
      · go_wp2_with fail
        go_loopw [3] (fun vl wr => ∃ (l : List ByteArray), l.length ≤ 65 ∧ (∀ x ∈ l, x.size ≤ 4) ∧ vl ≠ .slice none 0 0 ∧ wr.ownsRow w.heap.size 9 1 vl l.length (svl l) ∧ (∃ a2 c2, vl = .slice a2 l.length c2) ∧ SrcAt wr g a len cap ∧ w.grownBy wr (some g)) (fun vl _ => 65 - slLen vl)
        case atStart => exact ⟨l, by omega, HSm.out, HV.out, HO3.out, by obtain ⟨a2, c2, h, _⟩ := own_sa HO3.out; exact ⟨a2, c2, h⟩, HS3.out, HG3.out⟩
        case round =>
          clear HO3 HS3 HG3 HV HSm hlb hkl
          obtain ⟨l, hll, hsm, hnn, hown, ⟨a2, c2, rfl⟩, hsrc, hgr⟩ := hrel
          have HSm : Hid (∀ x ∈ l, x.size ≤ 4) := hsm
          have HS : Hid (SrcAt wr g a len cap) := hsrc
          have HG : Hid (w.grownBy wr (some g)) := hgr
          have HO : Hid (wr.ownsRow w.heap.size 9 1 (.slice a2 l.length c2) l.length (svl l)) := hown
          have HV : Hid ((.slice a2 l.length c2 : Value) ≠ .slice none 0 0) := hnn
          obtain ⟨n, hn⟩ : ∃ n, l.length = n := ⟨_, rfl⟩
          have HLn : Hid (l.length = n) := hn
          rw [hn] at hll HO HV ⊢
          clear hsm hsrc hgr hown hnn hn
          go_wp2_with fail
          refine (HN.out 3 _ (by omega) (by omega) HS.out).mono ?_
          rintro e w4 ⟨v, rfl, hv0, hv1, h1, h2⟩
          obtain ⟨r, rfl⟩ := Int.eq_ofNat_of_zero_le hv0
          have HO4 : Hid (w4.ownsRow w.heap.size 9 1 (.slice a2 n c2) n (svl l)) := HO.out.kept h2 (Or.inr (by intro e; have := (HO.out.lt _ e).1; omega))
          have HS4 : Hid (SrcAt w4 g a len cap) := h1
          have HG4 : Hid (w.grownBy w4 (some g)) := grownBy_trans HG.out h2
          clear h1 h2 HS HG HO
          by_cases hc : n < 63 + r
          · have hc' : (n : Int) < 63 + (r : Int) := by omega
            have B5 : Below w4.heap.size w4 (w4.alloc (.cells #[.string ⟨#[120]⟩] 9)) := (Below.refl _ _).alloc (Nat.le_refl _) _
            have hO5 := own_below HO4.out B5
            have hx5 := lit_sa w4 ⟨#[120]⟩ 9
            have hS5 : SrcAt (w4.alloc (.cells #[.string ⟨#[120]⟩] 9)) g a len cap := HS4.out.below B5 HS4.out.room
            have hG5 : w.grownBy (w4.alloc (.cells #[.string ⟨#[120]⟩] 9)) (some g) := grownBy_below HG4.out (B5.mono HG4.out.size)
            have HX5 : Hid (_ ∧ _ ∧ _ ∧ _) := ⟨hO5, hx5, hS5, hG5⟩
            have hz5 : w.heap.size ≤ (w4.alloc (.cells #[.string ⟨#[120]⟩] 9)).heap.size := hG5.size
            have hl1 : n + 1 ≤ 1000000 := by omega
            clear HS4 HG4 HO4 B5 hO5 hx5 hS5 hG5
            go_wp2_with (first
              | (at_builtin; refine wpList_append_strs rfl _ _ rfl w.heap.size (.slice a2 n c2) n 1 l [⟨#[120]⟩] rfl HX5.out.1 w4.heap.size 0 1 rfl rfl HX5.out.2.1 hl1 hz5 ?_; intro v6 w6 hO6 hB6 hv6; obtain ⟨a6, c6, rfl, hl6, hc6, hm6, hsa6⟩ := own_sa hO6))
            have HO6 : Hid (w6.ownsRow w.heap.size 9 1 (.slice a6 (n + 1) c6) (n + 1) (svl (l ++ [⟨#[120]⟩]))) := hO6
            have HS6 : Hid (SrcAt w6 g a len cap) := HX5.out.2.2.1.below hB6 hgw
            have HG6 : Hid (w.grownBy w6 (some g)) := grownBy_below HX5.out.2.2.2 hB6
            have HV6 : Hid ((.slice a6 (n + 1) c6 : Value) ≠ .slice none 0 0) := hv6 HV.out
            have HSm6 : Hid (∀ y ∈ l ++ [⟨#[120]⟩], y.size ≤ 4) := Lvs.snoc HSm.out (by decide)
            have HLn6 : Hid ((l ++ [(⟨#[120]⟩ : ByteArray)]).length = n + 1) := by show _ = _; rw [List.length_append, HLn.out]; rfl
            clear hO6 hB6 hv6 HX5 HV HSm hsa6 hl6 hc6 hm6
            go_wp2
            go_roundw
            case rel => exact ⟨l ++ [⟨#[120]⟩], by rw [HLn6.out]; omega, HSm6.out, HV6.out, by rw [HLn6.out]; exact HO6.out, ⟨a6, c6, by rw [HLn6.out]⟩, HS6.out, HG6.out⟩
            case measure => simp [slLen]; omega
          · have hc' : ¬ (n : Int) < 63 + (r : Int) := by omega
            go_wp2
            go_ret
            exact ⟨_, l, rfl, HV.out, ⟨by have := HLn.out; omega, HSm.out⟩, by rw [HLn.out]; exact HO4.out, HS4.out, HG4.out⟩
set_option maxRecDepth 100000 in
theorem any5 (g len cap : Nat) (a : Option Addr) (w : World) (h : SrcAt w g a len cap) :
    Calls Tryd.prog 66 #[.pointer (some ⟨g, 0, none⟩)] w fun e w' => ∃ x : ByteArray, e = .returned (.string x) ∧ x.size ≤ 40 ∧ SrcAt w' g a len cap ∧ w.grownBy w' (some g) := by
  have HO1 : Hid _ := one_any g len cap a 10 w h (by omega) (by omega)
  have HN : Hid (∀ (most : Int) w1, 0 < most → most ≤ 1000 → SrcAt w1 g a len cap → Calls Tryd.prog 62 #[.pointer (some ⟨g, 0, none⟩), .int .i64 most] w1 fun e w' => ∃ v : Int, e = .returned (.int .i64 v) ∧ 0 ≤ v ∧ v < most ∧ SrcAt w' g a len cap ∧ w1.grownBy w' (some g)) := fun most w1 k1 k2 h1 => n_any g len cap a most w1 h1 k1 (by omega)
  have HY : Hid (∀ (m : Nat) w1, m ≤ 1000 → SrcAt w1 g a len cap → Calls Tryd.prog 76 #[.pointer (some ⟨g, 0, none⟩), .int .i64 (m : Int)] w1 fun e w' => ∃ x : ByteArray, e = .returned (.string x) ∧ x.size = m ∧ SrcAt w' g a len cap ∧ w1.grownBy w' (some g)) := fun m w1 k1 h1 => bytes_any g len cap m a w1 h1 (by omega)
  clear h
  go_enter Tryd.func66, Tryd.ntmps66
  go_wp2_with fail
  refine Calls.mono HO1.out ?_
  rintro e w1 ⟨bb, rfl, h1, h2⟩
  have H1 : Hid (SrcAt w1 g a len cap) := h1
  have H2 : Hid (w.grownBy w1 (some g)) := h2
  clear h1 h2 HO1
  cases bb
  · have hy := HY.out 1 w1 (by omega) H1.out
    have HY1 : Hid _ := hy
    clear hy
    go_wp2_with fail
    refine Calls.mono HY1.out ?_
    rintro e w2 ⟨x, rfl, hx, h1, h2⟩
    have H3 : Hid (SrcAt w2 g a len cap) := h1
    have H4 : Hid (w.grownBy w2 (some g)) := grownBy_trans H2.out h2
    have HL : Hid (Calls Tryd.prog 71 #[.string x] w2 fun e w' => e = .returned (.string (leafD x)) ∧ Below w2.heap.size w2 w') := specLeaf x w2 (by omega)
    have hs := leafD_size x
    generalize leafD x = y at *
    clear h1 h2 H1 H2 HY1 HY HN
    go_wp2_with (go_at_call 71; refine Calls.mono HL.out ?_; rintro e w3 ⟨rfl, hB3⟩)
    go_ret
    exact ⟨y, rfl, by omega, H3.out.below hB3 H3.out.room, grownBy_below H4.out (hB3.mono H4.out.size)⟩
  · go_wp2_with fail
    refine (HN.out 4 _ (by omega) (by omega) H1.out).mono ?_
    rintro e w2 ⟨v, rfl, hv0, hv1, h1, h2⟩
    obtain ⟨r, rfl⟩ := Int.eq_ofNat_of_zero_le hv0
    have H3 : Hid (SrcAt w2 g a len cap) := h1
    have H4 : Hid (w.grownBy w2 (some g)) := grownBy_trans H2.out h2
    have hy := HY.out (30 + r) w2 (by omega) H3.out
    rw [show ((30 + r : Nat) : Int) = 30 + (r : Int) by omega] at hy
    have HY1 : Hid _ := hy
    clear h1 h2 H1 H2 hy
    go_wp2_with (go_at_call 76; refine Calls.mono HY1.out ?_; rintro e w3 ⟨x, rfl, hx, h1, h2⟩)
    go_ret
    exact ⟨x, rfl, by omega, h1, grownBy_trans H4.out h2⟩
set_option maxRecDepth 100000 in
theorem drawTree (len cap : Nat) (a : Option Addr) (w : World) (hb : Bytes w a len) (hs : len ≤ 9223372036854775807) :
    Calls Tryd.prog 13 #[.slice a len cap] w fun e w' => ∃ v l, e = .returned v ∧ v ≠ .slice none 0 0 ∧ Lvs l ∧ w'.ownsRow w.heap.size 9 1 v l.length (svl l) ∧ Below w.heap.size w w' := by
  have HS : Hid _ := source_any len cap a w hb hs
  clear hb
  go_enter Tryd.func13, Tryd.ntmps13
  go_wp2_with fail
  refine Calls.mono HS.out ?_
  rintro e w1 ⟨g, rfl, hg, h1, h2⟩
  have H2 : Hid (Below w.heap.size w w1) := h2
  have HL : Hid _ := leaves_any g len cap a w1 h1
  clear h1 h2 HS
  go_wp2_with fail
  refine Calls.mono HL.out ?_
  rintro e w2 ⟨v, l, rfl, hv, hl, hO, h3, h4⟩
  have HO : Hid (w2.ownsRow w.heap.size 9 1 v l.length (svl l)) := own_mono hO H2.out.size
  have HV : Hid (v ≠ .slice none 0 0) := hv
  have HLv : Hid (Lvs l) := hl
  have HB : Hid (Below w.heap.size w w2) := Below.by H2.out h4 H2.out.size hg
  clear h3 h4 hO hv hl HL H2
  go_wp2
  go_ret
  exact ⟨v, l, rfl, HV.out, HLv.out, HO.out, HB.out⟩
end Go.Proofs.YtoaoaagfnkpkdaaDoor
namespace Go.Proofs.YtoaoaagfnkpkdaaDoor
open Go.RowKit
set_option linter.unusedVariables false

/- Texts, not many, not long. -/
structure Few (l : List ByteArray) (n : Nat) : Prop where
  len : l.length ≤ n
  small : ∀ x ∈ l, x.size ≤ 1000
theorem Few.snoc {l : List ByteArray} {n : Nat} {x : ByteArray} (h : Few l n) (hx : x.size ≤ 1000) : Few (l ++ [x]) (n + 1) := ⟨by rw [List.length_append]; have := h.len; simp; omega, fun y hy => by
  rcases List.mem_append.1 hy with h1 | h1
  · exact h.small y h1
  · rw [List.mem_singleton.1 h1]; exact hx⟩
theorem Few.cut {l : List ByteArray} {n : Nat} (h : Few l n) (i : Nat) : Few (l.take i ++ l.drop (i + 1)) n := ⟨by rw [List.length_append, List.length_take, List.length_drop]; have := h.len; omega, fun y hy => by
  rcases List.mem_append.1 hy with h1 | h1
  · exact h.small y (List.mem_of_mem_take h1)
  · exact h.small y (List.mem_of_mem_drop h1)⟩
theorem Few.set {l : List ByteArray} {n : Nat} {x : ByteArray} (h : Few l n) (i : Nat) (hx : x.size ≤ 1000) : Few (l.set i x) n := ⟨by rw [List.length_set]; exact h.len, fun y hy => by
  rcases List.mem_or_eq_of_mem_set hy with h1 | h1
  · exact h.small y h1
  · rw [h1]; exact hx⟩
theorem Few.mono {l : List ByteArray} {n m : Nat} (h : Few l n) (hm : n ≤ m) : Few l m := ⟨Nat.le_trans h.len hm, h.small⟩
/- What stands between two draws. -/
structure KpD (w : World) (g : Nat) (a : Option Addr) (len cap : Nat) (v : Value) (l : List ByteArray) (w' : World) : Prop where
  own : w'.ownsRow w.heap.size 9 1 v l.length (svl l)
  src : SrcAt w' g a len cap
  gr : w.grownBy w' (some g)
  lt : g < w.heap.size
theorem KpD.draw {w w' w2 : World} {g : Nat} {a : Option Addr} {len cap : Nat} {v : Value} {l : List ByteArray} (h : Hid (KpD w g a len cap v l w')) (h1 : SrcAt w2 g a len cap) (h2 : w'.grownBy w2 (some g)) : Hid (KpD w g a len cap v l w2) :=
  ⟨h.out.own.kept h2 (Or.inr (by intro e; have := (h.out.own.lt _ e).1; have := h.out.lt; omega)), h1, grownBy_trans h.out.gr h2, h.out.lt⟩
theorem KpD.app {w w' w2 : World} {g : Nat} {a : Option Addr} {len cap : Nat} {v v2 : Value} {l l2 : List ByteArray} (h : Hid (KpD w g a len cap v l w')) (ho : w2.ownsRow w.heap.size 9 1 v2 l2.length (svl l2)) (hb : Below w.heap.size w' w2) : Hid (KpD w g a len cap v2 l2 w2) :=
  ⟨ho, h.out.src.below hb h.out.lt, grownBy_below h.out.gr hb, h.out.lt⟩
theorem KpD.start {w w1 : World} {g : Nat} {a : Option Addr} {len cap : Nat} {v : Value} {l : List ByteArray} (hs : SrcAt w g a len cap) (ho : w1.ownsRow w.heap.size 9 1 v l.length (svl l)) (hb : Below w.heap.size w w1) : Hid (KpD w g a len cap v l w1) :=
  ⟨ho, hs.below hb hs.room, grownBy_below (World.grownBy.refl _ _) hb, hs.room⟩
/- A part of an own row is one. -/
theorem own_part {w : World} {base e : Nat} {g c n k : Nat} {l : List ByteArray} (h : w.ownsRow base e 1 (.slice (some ⟨g, 0, none⟩) n c) n (svl l)) (hk : k ≤ n) : w.ownsRow base e 1 (.slice (some ⟨g, 0, none⟩) k c) k (svl (l.take k)) := by
  have hl : l.length = n := by have := h.1; rw [svl_length] at this; omega
  refine ⟨by rw [svl_length, List.length_take]; omega, ?_⟩
  rcases h.2 with ⟨h0, _⟩ | ⟨g', cap, cur, hv, hbg, hg, h1, h2, h3, h4⟩
  · simp at h0
  · simp at hv
    obtain ⟨rfl, rfl⟩ := hv
    refine .inr ⟨g, c, cur, rfl, hbg, hg, by omega, h2, h3, ?_⟩
    have : svl (l.take k) = (svl l).take k := by unfold svl; rw [List.map_take]
    rw [this, ← h4, List.take_take]
    congr 1
    omega
theorem Tryd.sliceHiA (g n c k : Nat) (h : k ≤ n) (hc : n ≤ c) : ∃ p, (∀ w, (Instr.slice 23 (.slice (some ⟨g, 0, none⟩) n c) (some (.int .i64 (k : Int))) none none).run Tryd.prog w = .ok (.slice (some ⟨g, p, none⟩) (n - k) (c - k)) w) ∧ (k < c → p = k) := by
  by_cases hkc : k < c
  · exact ⟨k, fun w => by have := Tryd.sliceHi g 0 n c k h hkc w; rw [Nat.zero_add] at this; exact this, fun _ => rfl⟩
  · obtain rfl : k = c := by omega
    obtain rfl : n = k := by omega
    refine ⟨0, fun w => ?_, fun e => absurd e hkc⟩
    simp [Instr.slice, run_underlying Tryd.underlying23, Instr.sliceBounds, run_sliceBound]
/- A slice of texts that may be none. -/
def MayS (w : World) (u : Value) (l : List ByteArray) : Prop := (u = .slice none 0 0 ∧ l = []) ∨ ∃ b o c, u = .slice (some ⟨b, o, none⟩) l.length c ∧ l.length ≤ c ∧ SA w (some ⟨b, o, none⟩) l
theorem MayS.below {w w' : World} {u : Value} {l : List ByteArray} (h : MayS w u l) (hb : Below w.heap.size w w') : MayS w' u l := by
  rcases h with h | ⟨b, o, c, h1, h2, h3⟩
  · exact .inl h
  · exact .inr ⟨b, o, c, h1, h2, h3.below hb⟩
theorem wpList_append_may {W : World} {ops : Array Oper} {rest : List Oper} {o : Oper} {a : Act} {Q : Exit → Act → World → Prop} (hgd : o.guard = none) (s x : Operand) (ho : o.op = .call { callee := .builtin .append, args := #[s, x], argTypes := #[23, 23] })
    (base : Nat) (v : Value) (n m : Nat) (l1 l2 : List ByteArray) (hs : a.eval s = v) (hown : W.ownsRow base 9 1 v n (svl l1)) (u : Value) (hx : a.eval x = u) (hl2 : l2.length = m) (hu : MayS W u l2) (hn : n + m ≤ 1000000) (hbase : base ≤ W.heap.size)
    (h : ∀ v' w', w'.ownsRow base 9 1 v' (n + m) (svl (l1 ++ l2)) → Below base W w' → (v ≠ .slice none 0 0 → v' ≠ .slice none 0 0) → wpList Tryd.prog ops Q rest (a.put o.dst v') w') : wpList Tryd.prog ops Q (o :: rest) a W := by
  rcases hu with ⟨rfl, rfl⟩ | ⟨b, p, c, rfl, hc, hA⟩
  · obtain ⟨i0, hi, hz0, hz1, hz2⟩ := info_parts Tryd.infoStr
    refine wpList_append_own_none hgd s x 23 ho base 9 i0 1 Tryd.underlying23 hi v n (svl l1) hs hown hx (h v W ?_ (Below.refl _ _) id)
    obtain rfl : 0 = m := hl2
    rw [List.append_nil]
    exact hown
  · rw [hl2] at hx
    exact wpList_append_strs hgd s x ho base v n m l1 l2 hs hown b p c hx hl2 hA hn hbase h
theorem wp_append_strs {W : World} {o : Oper} {a : Act} {K : Act → World → Prop} {Q : Exit → Act → World → Prop} (s x : Operand) (ho : o.op = .call { callee := .builtin .append, args := #[s, x], argTypes := #[23, 23] })
    (base : Nat) (v : Value) (n m : Nat) (l1 l2 : List ByteArray) (hs : a.eval s = v) (hown : W.ownsRow base 9 1 v n (svl l1)) (g p c : Nat) (hx : a.eval x = .slice (some ⟨g, p, none⟩) m c) (hl2 : l2.length = m) (hA : SA W (some ⟨g, p, none⟩) l2) (hn : n + m ≤ 1000000) (hbase : base ≤ W.heap.size)
    (h : ∀ v' w', w'.ownsRow base 9 1 v' (n + m) (svl (l1 ++ l2)) → Below base W w' → (v ≠ .slice none 0 0 → v' ≠ .slice none 0 0) → K (a.put o.dst v') w') : Oper.wp Tryd.prog o a W K Q := by
  obtain ⟨i0, hi, hz0, hz1, hz2⟩ := info_parts Tryd.infoStr
  obtain ⟨v', w', hr, h2, h3, h4, h5⟩ := run_append_own_at (P := Tryd.prog) W base 23 o.type 9 i0 (.string ⟨#[]⟩) 1 16 Tryd.underlying23 hi hz0 hz1 hz2 rfl (by decide) v n (svl l1) hown ⟨g, p, none⟩ m c (svl l2) (by rw [svl_length]; omega)
    (fun j u hj => by
      obtain ⟨hj1, hj2⟩ := List.getElem?_eq_some_iff.1 hj
      have hjl : j < l2.length := by rw [svl_length] at hj1; exact hj1
      obtain ⟨b, o', hb, hc⟩ := hA j hjl
      injection hb with hb
      injection hb with e1 e2
      subst e1 e2
      rw [Addr.add_lit, hc, ← hj, svl_get hjl])
    (fun u hu => by
      unfold svl at hu
      obtain ⟨b, _, rfl⟩ := List.mem_map.1 hu
      rfl) (by unfold maxLen; omega) (by omega) hbase
  have hB : Below base W w' := (Below.refl base W).grown h3 hbase (fun k hk => (hown.lt k hk).1)
  unfold Oper.wp execOp
  simp only [ho, resolve, invoke, builtin, Sem.run_bind, Sem.run_pure, Result.andThen_ok, List.map_toArray, List.map_cons, List.map_nil, hs, hx, hr]
  exact h v' w' (by rw [show svl (l1 ++ l2) = svl l1 ++ svl l2 by simp [svl]]; exact h2) hB (fun hv hv' => hv (h4.1 hv').1)
attribute [local go_sem ↓] Go.wp_at_zero Go.wp_at_succ
set_option maxRecDepth 100000 in
set_option maxHeartbeats 2000000 in
theorem spoil_any (g len cap : Nat) (a : Option Addr) (w : World) (hsrc : SrcAt w g a len cap) (u : Value) (l : List ByteArray) (hf : Few l 400) (hu : MayS w u l) :
    Calls Tryd.prog 65 #[.pointer (some ⟨g, 0, none⟩), u] w fun e w' => ∃ v' l', e = .returned v' ∧ v' ≠ .slice none 0 0 ∧ Few l' 401 ∧ Hid (KpD w g a len cap v' l' w') := by
  have HA5 : Hid (∀ w1, SrcAt w1 g a len cap → Calls Tryd.prog 66 #[.pointer (some ⟨g, 0, none⟩)] w1 fun e w' => ∃ x : ByteArray, e = .returned (.string x) ∧ x.size ≤ 40 ∧ SrcAt w' g a len cap ∧ w1.grownBy w' (some g)) := fun w1 h1 => any5 g len cap a w1 h1
  have HO : Hid (∀ (m : Nat) w1, 0 < m → m ≤ 1000 → SrcAt w1 g a len cap → Calls Tryd.prog 63 #[.pointer (some ⟨g, 0, none⟩), .int .i64 (m : Int)] w1 fun e w' => ∃ b : Bool, Hid (e = .returned (.bool b) ∧ SrcAt w' g a len cap ∧ w1.grownBy w' (some g))) := fun m w1 k1 k2 h1 => one_any g len cap a m w1 h1 (by omega) (by omega)
  have HNn : Hid (∀ (most : Int) w1, 0 < most → most ≤ 1000 → SrcAt w1 g a len cap → Calls Tryd.prog 62 #[.pointer (some ⟨g, 0, none⟩), .int .i64 most] w1 fun e w' => ∃ v : Int, e = .returned (.int .i64 v) ∧ 0 ≤ v ∧ v < most ∧ SrcAt w' g a len cap ∧ w1.grownBy w' (some g)) := fun most w1 k1 k2 h1 => n_any g len cap a most w1 h1 k1 (by omega)
  have hgl := hsrc.room
  have hlen := hf.len
  have HF : Hid (Few l 400) := hf
  have B1 : Below w.heap.size w (w.alloc (.cells #[] 9)) := (Below.refl _ _).alloc (Nat.le_refl _) _
  have HW1 : Hid ((w.alloc (.cells #[] 9)).ownsRow w.heap.size 9 1 (.slice (some ⟨w.heap.size, 0, none⟩) 0 0) 0 (svl [])) := World.ownsRow_made w #[] 0 (Nat.le_refl _) (Nat.zero_le _) rfl
  have HU1 : Hid (MayS (w.alloc (.cells #[] 9)) u l) := hu.below B1
  have HB1 : Hid (Below w.heap.size w (w.alloc (.cells #[] 9))) := B1
  have HSr : Hid (SrcAt w g a len cap) := hsrc
  have hz1 : w.heap.size ≤ (w.alloc (.cells #[] 9)).heap.size := B1.size
  obtain ⟨n, hn⟩ : ∃ n, l.length = n := ⟨_, rfl⟩
  have HN : Hid (l.length = n) := hn
  rw [hn] at hlen
  clear hsrc hf hu B1 hn
  by_cases hn0 : n = 0
  · have d0 : ((n : Int) == 0) = true := beq_iff_eq.2 (by omega)
    clear hn0
    go_enter Tryd.func65, Tryd.ntmps65
    go_wp2_with (first
      | (at_builtin; refine wpList_append_may rfl _ _ rfl w.heap.size (.slice (some ⟨w.heap.size, 0, none⟩) 0 0) 0 n [] l rfl HW1.out u rfl HN.out HU1.out (by omega) hz1 ?_; intro v1 w1 hO1 hB1 hv1; rw [Nat.zero_add, List.nil_append] at hO1; obtain ⟨g1, c, rfl, hl1, hg1, hc1, hm1, hsa1⟩ := own_some hO1 (hv1 (by simp)); have HD1 : Hid (KpD w g a len cap (.slice (some ⟨g1, 0, none⟩) n c) l w1) := KpD.start HSr.out (by rw [HN.out]; exact hO1) (HB1.out.trans hB1); clear hO1 hB1 hv1 hl1 hsa1 HW1 HU1 HB1 hz1 HSr))
    refine (HA5.out _ HD1.out.src).mono ?_
    rintro e wa ⟨x, rfl, hx, k1, k2⟩
    have HDa : Hid (KpD w g a len cap (.slice (some ⟨g1, 0, none⟩) n c) l wa) := KpD.draw HD1 k1 k2
    have BA : Below w.heap.size wa (wa.alloc (.cells #[.string x] 9)) := (Below.refl _ _).alloc HDa.out.gr.size _
    have HOa : Hid ((wa.alloc (.cells #[.string x] 9)).ownsRow w.heap.size 9 1 (.slice (some ⟨g1, 0, none⟩) n c) n (svl l)) := by have := HDa.out.own; rw [HN.out] at this; exact this.alloc _
    have HXa : Hid (SA (wa.alloc (.cells #[.string x] 9)) (some ⟨wa.heap.size, 0, none⟩) [x]) := lit_sa wa x 9
    have hza : w.heap.size ≤ (wa.alloc (.cells #[.string x] 9)).heap.size := Nat.le_trans HDa.out.gr.size (by simp)
    have HBA : Hid (Below w.heap.size wa (wa.alloc (.cells #[.string x] 9))) := BA
    clear k1 k2 BA HD1
    go_wp2_with (first
      | (at_builtin; refine wpList_append_strs rfl _ _ rfl w.heap.size (.slice (some ⟨g1, 0, none⟩) n c) n 1 l [x] rfl HOa.out wa.heap.size 0 1 rfl rfl HXa.out (by omega) hza ?_; intro v6 w6 hO6 hB6 hv6))
    go_ret
    refine ⟨v6, l ++ [x], rfl, hv6 (by simp), HF.out.snoc (by omega), KpD.app HDa ?_ (HBA.out.trans hB6)⟩
    rw [List.length_append, HN.out]
    exact hO6
  have d0 : ((n : Int) == 0) = false := beq_eq_false_iff_ne.2 (by omega)
  have HO3 := HO.out 3
  go_enter Tryd.func65, Tryd.ntmps65
  go_wp2_with (first
    | (at_builtin; refine wpList_append_may rfl _ _ rfl w.heap.size (.slice (some ⟨w.heap.size, 0, none⟩) 0 0) 0 n [] l rfl HW1.out u rfl HN.out HU1.out (by omega) hz1 ?_; intro v1 w1 hO1 hB1 hv1; rw [Nat.zero_add, List.nil_append] at hO1; obtain ⟨g1, c, rfl, hl1, hg1, hc1, hm1, hsa1⟩ := own_some hO1 (hv1 (by simp)); have HD1 : Hid (KpD w g a len cap (.slice (some ⟨g1, 0, none⟩) n c) l w1) := KpD.start HSr.out (by rw [HN.out]; exact hO1) (HB1.out.trans hB1); clear hO1 hB1 hv1 hl1 hsa1 HW1 HU1 HB1 hz1 HSr))
  refine (HO3 _ (by omega) (by omega) HD1.out.src).mono ?_
  rintro e w2 ⟨bb, rfl, k1, k2⟩
  have HD2 := KpD.draw HD1 k1 k2
  clear k1 k2 HD1
  cases bb
  case true =>
    go_wp2_with fail
    refine (HA5.out _ HD2.out.src).mono ?_
    rintro e wa ⟨x, rfl, hx, k1, k2⟩
    have HDa : Hid (KpD w g a len cap (.slice (some ⟨g1, 0, none⟩) n c) l wa) := KpD.draw HD2 k1 k2
    have BA : Below w.heap.size wa (wa.alloc (.cells #[.string x] 9)) := (Below.refl _ _).alloc HDa.out.gr.size _
    have HOa : Hid ((wa.alloc (.cells #[.string x] 9)).ownsRow w.heap.size 9 1 (.slice (some ⟨g1, 0, none⟩) n c) n (svl l)) := by have := HDa.out.own; rw [HN.out] at this; exact this.alloc _
    have HXa : Hid (SA (wa.alloc (.cells #[.string x] 9)) (some ⟨wa.heap.size, 0, none⟩) [x]) := lit_sa wa x 9
    have hza : w.heap.size ≤ (wa.alloc (.cells #[.string x] 9)).heap.size := Nat.le_trans HDa.out.gr.size (by simp)
    have HBA : Hid (Below w.heap.size wa (wa.alloc (.cells #[.string x] 9))) := BA
    clear k1 k2 BA HD2
    go_wp2_with (first
      | (at_builtin; refine wpList_append_strs rfl _ _ rfl w.heap.size (.slice (some ⟨g1, 0, none⟩) n c) n 1 l [x] rfl HOa.out wa.heap.size 0 1 rfl rfl HXa.out (by omega) hza ?_; intro v6 w6 hO6 hB6 hv6))
    go_ret
    refine ⟨v6, l ++ [x], rfl, hv6 (by simp), HF.out.snoc (by omega), KpD.app HDa ?_ (HBA.out.trans hB6)⟩
    rw [List.length_append, HN.out]
    exact hO6
  have HNl := HNn.out (n : Int)
  go_wp2_with fail
  refine (HNl _ (by omega) (by omega) HD2.out.src).mono ?_
  rintro e w3 ⟨z, rfl, hz0, hz1, k1, k2⟩
  obtain ⟨i, rfl⟩ := Int.eq_ofNat_of_zero_le hz0
  have hin : i < n := by omega
  have HD3 := KpD.draw HD2 k1 k2
  have HO2 := HO.out 2
  clear k1 k2 HD2 HO
  go_wp2_with fail
  refine (HO2 _ (by omega) (by omega) HD3.out.src).mono ?_
  rintro e w4 ⟨bb, rfl, k1, k2⟩
  have HD4 := KpD.draw HD3 k1 k2
  clear k1 k2 HD3
  cases bb
  case false =>
    go_wp2_with fail
    refine (HA5.out _ HD4.out.src).mono ?_
    rintro e w5 ⟨x, rfl, hx, k1, k2⟩
    have HD5 := KpD.draw HD4 k1 k2
    have hO5 := HD5.out.own
    rw [HN.out] at hO5
    have hil : i < l.length := by have := HN.out; omega
    have hc5 : w5.cell? ⟨g1, i, none⟩ = some (.string l[i]) := by rw [hO5.cellAt i (by omega), svl_get hil]
    have hf5 := hO5.frozenAt i
    have HS5 : Hid (KpD w g a len cap (.slice (some ⟨g1, 0, none⟩) n c) (l.set i x) (w5.setCell ⟨g1, i, none⟩ (.string x))) := by
      have hs := hO5.stored i (.string x)
      refine KpD.app HD5 ?_ ((Below.refl _ _).setCell hg1 _)
      rw [List.length_set, HN.out, ← svl_set]
      exact hs.1
    generalize l[i] = y at *
    have i0 : (0 : Int) ≤ (i : Int) := by omega
    have i1 : (i : Int) < (n : Int) := by omega
    clear k1 k2 HD4 HD5 hO5 hil
    go_wp2
    go_ret
    exact ⟨_, l.set i x, rfl, by simp, (HF.out.set i (by omega)).mono (by omega), HS5⟩
  obtain ⟨p, hsl, hp⟩ := Tryd.sliceHiA g1 n c (i + 1) (by omega) hc1
  have slo := Tryd.sliceLo g1 0 n c i (by omega)
  rw [show ((i + 1 : Nat) : Int) = (i : Int) + 1 by omega] at hsl
  have ei : IntKind.i64.wrap ((i : Int) + 1) = (i : Int) + 1 := by rw [IntKind.wrap_i64]; omega
  have HD5 : Hid (KpD w g a len cap (.slice (some ⟨g1, 0, none⟩) n c) l w4.drew) := ⟨HD4.out.own.drew, HD4.out.src.drew, grownBy_drew HD4.out.gr, HD4.out.lt⟩
  have hO5 : w4.drew.ownsRow w.heap.size 9 1 (.slice (some ⟨g1, 0, none⟩) n c) n (svl l) := by have := HD5.out.own; rw [HN.out] at this; exact this
  have HP5 : Hid (w4.drew.ownsRow w.heap.size 9 1 (.slice (some ⟨g1, 0, none⟩) i c) i (svl (l.take i))) := own_part hO5 (by omega)
  have HX5 : Hid (SA w4.drew (some ⟨g1, p, none⟩) (l.drop (i + 1))) := fun k hk => by
    have hk' : i + 1 + k < l.length := by rw [List.length_drop] at hk; omega
    have hpp := hp (by have := HN.out; omega)
    refine ⟨g1, p, rfl, ?_⟩
    rw [hpp, hO5.cellAt (i + 1 + k) (by have := HN.out; omega), svl_get hk', List.getElem_drop]
  have hz5 : w.heap.size ≤ w4.drew.heap.size := HD5.out.gr.size
  have hl5 : (l.drop (i + 1)).length = n - (i + 1) := by rw [List.length_drop, HN.out]
  have HL5 : Hid ((l.drop (i + 1)).length = n - (i + 1)) := hl5
  clear hO5 HD4 hl5 hp
  go_wp2_with fail
  refine wp_region_held_drew (S := fun _ => True) (by kernel_rfl) trivial (fun hHeld => ?_)
  refine wpAnyH_take (i := 0) (oi := ⟨_, _, _, _, _, _⟩) (v := .slice (some ⟨g1, 0, none⟩) n c) rfl (by kernel_rfl) (by kernel_rfl) (by kernel_rfl) (fun _ _ _ h => h) (Or.inl ⟨wn' rfl, fun w' hSw => ?_⟩) trivial ?_
  · go_simp
  try simp only [Act.put, List.setIfInBounds_toArray, List.set_cons_zero, List.set_cons_succ]
  refine wpAnyH_take (i := 1) (oi := ⟨_, _, _, _, _, _⟩) (v := .int .i64 (i : Int)) rfl (by kernel_rfl) (by kernel_rfl) (by kernel_rfl) (fun _ _ _ h => h) (Or.inl ⟨wn' rfl, fun w' hSw => ?_⟩) trivial ?_
  · go_simp
  try simp only [Act.put, List.setIfInBounds_toArray, List.set_cons_zero, List.set_cons_succ]
  refine wpAnyH_take (i := 2) (oi := ⟨_, _, _, _, _, _⟩) (v := .slice (some ⟨g1, 0, none⟩) i c) rfl (by kernel_rfl) (by kernel_rfl) (by kernel_rfl) (fun _ _ _ h => h) (Or.inl ⟨wn' rfl, fun w' hSw => ?_⟩) trivial ?_
  · go_simp
  try simp only [Act.put, List.setIfInBounds_toArray, List.set_cons_zero, List.set_cons_succ]
  refine wpAnyH_take (i := 3) (oi := ⟨_, _, _, _, _, _⟩) (v := .slice (some ⟨g1, 0, none⟩) n c) rfl (by kernel_rfl) (by kernel_rfl) (by kernel_rfl) (fun _ _ _ h => h) (Or.inl ⟨wn' rfl, fun w' hSw => ?_⟩) trivial ?_
  · go_simp
  try simp only [Act.put, List.setIfInBounds_toArray, List.set_cons_zero, List.set_cons_succ]
  refine wpAnyH_take (i := 4) (oi := ⟨_, _, _, _, _, _⟩) (v := .int .i64 (i : Int)) rfl (by kernel_rfl) (by kernel_rfl) (by kernel_rfl) (fun _ _ _ h => h) (Or.inl ⟨wn' rfl, fun w' hSw => ?_⟩) trivial ?_
  · go_simp
  try simp only [Act.put, List.setIfInBounds_toArray, List.set_cons_zero, List.set_cons_succ]
  refine wpAnyH_take (i := 5) (oi := ⟨_, _, _, _, _, _⟩) (v := .int .i64 ((i : Int) + 1)) rfl (by kernel_rfl) (by kernel_rfl) (by kernel_rfl) (fun _ _ _ h => h) (Or.inl ⟨wn' rfl, fun w' hSw => ?_⟩) trivial ?_
  · go_simp
  try simp only [Act.put, List.setIfInBounds_toArray, List.set_cons_zero, List.set_cons_succ]
  refine wpAnyH_take (i := 6) (oi := ⟨_, _, _, _, _, _⟩) (v := .slice (some ⟨g1, p, none⟩) (n - (i + 1)) (c - (i + 1))) rfl (by kernel_rfl) (by kernel_rfl) (by kernel_rfl) (fun _ _ _ h => h) (Or.inl ⟨wn' rfl, fun w' hSw => ?_⟩) trivial ?_
  · go_simp
  try simp only [Act.put, List.setIfInBounds_toArray, List.set_cons_zero, List.set_cons_succ]
  refine wpAnyH_ready (rs := [7]) (by kernel_rfl) (by simp) (AllReadyH.cons (o := ⟨_, _, _, _, _, _⟩) rfl (fun K hK => ?_) AllReadyH.nil)
  rewrite [if_pos (wn' rfl)]
  with_reducible refine wp_append_strs (.tmp 29) (.tmp 33) (by with_unfolding_all rfl) w.heap.size (.slice (some ⟨g1, 0, none⟩) i c) i (n - (i + 1)) (l.take i) (l.drop (i + 1)) (by with_unfolding_all rfl) HP5.out g1 p (c - (i + 1)) (by with_unfolding_all rfl) HL5.out HX5.out (by omega) hz5 ?_
  intro v6 w6 hO6 hB6 hv6
  refine hK.out _ _ trivial (fun _ => ?_)
  clear hK K
  try simp only [Act.put, List.setIfInBounds_toArray, List.set_cons_zero, List.set_cons_succ]
  refine wpAnyH_take (i := 8) (oi := ⟨_, _, _, _, _, _⟩) (v := v6) rfl (by kernel_rfl) (by kernel_rfl) (by kernel_rfl) (fun _ _ _ h => h) (Or.inl ⟨wn' rfl, fun w' hSw => ?_⟩) trivial ?_
  · go_simp
  try simp only [Act.put, List.setIfInBounds_toArray, List.set_cons_zero, List.set_cons_succ]
  refine wpAnyH_done (by kernel_rfl) ?_ _
  have HR : Hid (KpD w g a len cap v6 (l.take i ++ l.drop (i + 1)) w6) := KpD.app HD5 (by rw [List.length_append, List.length_take, HL5.out, HN.out, Nat.min_eq_left (by omega)]; exact hO6) hB6
  have HV6 : Hid (v6 ≠ .slice none 0 0) := hv6 (by simp)
  clear hO6 hB6 hv6 HP5 HX5 HD5 hHeld
  go_wp2
  go_ret
  exact ⟨v6, _, rfl, HV6.out, (HF.out.cut i).mono (by omega), HR⟩
end Go.Proofs.YtoaoaagfnkpkdaaDoor
namespace Go.Proofs.YtoaoaagfnkpkdaaDoor
open Go.RowKit
set_option linter.unusedVariables false

def NewM (w : World) (base : Nat) (u : Value) (l : List ByteArray) : Prop := (u = .slice none 0 0 ∧ l = []) ∨ ∃ b c, u = .slice (some ⟨b, 0, none⟩) l.length c ∧ base ≤ b ∧ l.length ≤ c ∧ SA w (some ⟨b, 0, none⟩) l
theorem NewM.nil (w : World) (base : Nat) : NewM w base (.slice none 0 0) [] := .inl ⟨rfl, rfl⟩
theorem NewM.may {w : World} {base : Nat} {u : Value} {l : List ByteArray} (h : NewM w base u l) : MayS w u l := by
  rcases h with h | ⟨b, c, h1, h2, h3, h4⟩
  · exact .inl h
  · exact .inr ⟨b, 0, c, h1, h3, h4⟩
theorem NewM.below {w w' : World} {base : Nat} {u : Value} {l : List ByteArray} (h : NewM w base u l) (hb : Below w.heap.size w w') : NewM w' base u l := by
  rcases h with h | ⟨b, c, h1, h2, h3, h4⟩
  · exact .inl h
  · exact .inr ⟨b, c, h1, h2, h3, h4.below hb⟩
theorem NewM.grown {w w' : World} {base g : Nat} {u : Value} {l : List ByteArray} (h : NewM w base u l) (hg : w.grownBy w' (some g)) (hb : g < base) : NewM w' base u l := by
  rcases h with h | ⟨b, c, h1, h2, h3, h4⟩
  · exact .inl h
  · refine .inr ⟨b, c, h1, h2, h3, fun k hk => ?_⟩
    obtain ⟨b', o', e, hc⟩ := h4 k hk
    injection e with e
    injection e with e1 e2
    subst e1 e2
    exact ⟨b, 0, rfl, hg.cell hc (by intro e; injection e with e; have : b = g := e; omega)⟩
theorem NewM.own {w : World} {base e : Nat} {v : Value} {l : List ByteArray} (h : w.ownsRow base e 1 v l.length (svl l)) : NewM w base v l := by
  by_cases hv : v = .slice none 0 0
  · subst hv
    rcases h.2 with ⟨_, h0⟩ | ⟨g, cap, cur, h1, _⟩
    · exact .inl ⟨rfl, List.length_eq_zero_iff.1 h0⟩
    · simp at h1
  · obtain ⟨g, c, h1, h2, h3, h4, h5, h6⟩ := own_some h hv
    exact .inr ⟨g, c, h1, h3, h4, h6⟩
theorem NewM.far {w w' : World} {g e : Nat} {v : Value} {l : List ByteArray} (h : w.ownsRow (g + 1) e 1 v l.length (svl l)) (hf : ∀ x : Addr, x.block ≠ g → w'.cell? x = w.cell? x ∧ w'.frozen? x = w.frozen? x) : NewM w' g v l := by
  by_cases hv : v = .slice none 0 0
  · subst hv
    rcases h.2 with ⟨_, h0⟩ | ⟨g, cap, cur, h1, _⟩
    · exact .inl ⟨rfl, List.length_eq_zero_iff.1 h0⟩
    · simp at h1
  · obtain ⟨g', c, h1, h2, h3, h4, h5, h6⟩ := own_some h hv
    refine .inr ⟨g', c, h1, by omega, h4, fun k hk => ?_⟩
    obtain ⟨b, o, e1, e2⟩ := h6 k hk
    injection e1 with e1
    injection e1 with e3 e4
    subst e3 e4
    exact ⟨g', 0, rfl, by rw [(hf ⟨g', 0 + k, none⟩ (by show g' ≠ g; omega)).1]; exact e2⟩
theorem MayS.sa {w : World} {u : Value} {l : List ByteArray} (h : MayS w u l) : ∃ a c, u = .slice a l.length c ∧ l.length ≤ c ∧ SA w a l := by
  rcases h with ⟨rfl, rfl⟩ | ⟨b, o, c, h1, h2, h3⟩
  · exact ⟨none, 0, rfl, Nat.le_refl _, SA.nil _ _⟩
  · exact ⟨_, c, h1, h2, h3⟩
set_option maxRecDepth 100000 in
set_option maxHeartbeats 1000000 in
theorem specIncM (a : Option Addr) (c n : Nat) (i : Int) (l : List ByteArray) (w : World) (hn : l.length = n) (hc : n ≤ c) (h : SA w a l) (hM : n ≤ 1000000000) (hcM : c ≤ 9223372036854775807) (hx : ∀ x ∈ l, x.size ≤ maxLen) :
    Calls Tryd.prog 37 #[.slice a n c, .int .i64 i] w fun e w' => ∃ v, e = .returned (.agg (pvs v (prfC l 0 i)).toArray) ∧ NewM w' w.heap.size v (incL l i) ∧ Below w.heap.size w w' := by
  by_cases hb : 400 < n
  · have hcd : prfC l 0 i = 2 := prfC_big (by omega)
    have HL : Hid (incL l i = []) := by show _ = _; unfold incL; rw [hcd, if_neg (by decide)]
    have d1 : decide ((400 : Int) < n) = true := decide_eq_true (by omega)
    rw [hcd]
    clear h hx hcd
    go_enter Tryd.func37, Tryd.ntmps37
    go_wp2_with (first
      | (with_reducible refine wpList_allocV (w := w) (by with_unfolding_all rfl) 29 (by with_unfolding_all rfl) (pvs (.slice none 0 0) 0) Tryd.infoP ?_; intro w1 hA1 hB1 hS1)
      | (with_reducible refine wpList_storeV (w := w1) (by with_unfolding_all rfl) 29 (.tmp 4) (.tmp 8) (by with_unfolding_all rfl) w.heap.size (pvs (.slice none 0 0) 0) (pvs (.slice none 0 0) 2) (by with_unfolding_all rfl) (by with_unfolding_all rfl) hA1 2 Tryd.sizeP (by with_unfolding_all rfl) (by with_unfolding_all rfl) (pvs_one _ _ _ _) ?_; intro w5 hA5 hB5 hF5 hS5))
    refine bodyPost_ret (results_V (t := 29) rfl _ w.heap.size _ rfl hA5 Tryd.undP 2 Tryd.sizeP rfl) rfl ⟨_, rfl, ?_, hB1.trans (hB5 _ (Nat.le_refl _))⟩
    rw [HL.out]
    exact NewM.nil _ _
  have d1 : decide ((400 : Int) < n) = false := decide_eq_false (by omega)
  have hR : ∀ w0, Hid (SA w0 a l) → Calls Tryd.prog 47 #[.slice a n c] w0 fun e w' => e = .returned (.bool (okLv l)) ∧ w0 = w' := fun w0 h0 => (specRight a c n l w0 hn h0.out hM hx).mono fun e w' h => ⟨h.1, h.2.symm⟩
  have HA : Hid (SA w a l) := h
  by_cases ho : okLv l = true
  case neg =>
    have hof : okLv l = false := by simpa using ho
    have hcd : prfC l 0 i = 1 := prfC_form (by omega) hof
    have HL : Hid (incL l i = []) := by show _ = _; unfold incL; rw [hcd, if_neg (by decide)]
    rw [hcd]
    rw [hof] at hR
    clear h hx hcd ho hof
    go_enter Tryd.func37, Tryd.ntmps37
    go_wp2_with (first
      | (with_reducible refine wpList_allocV (w := w) (by with_unfolding_all rfl) 29 (by with_unfolding_all rfl) (pvs (.slice none 0 0) 0) Tryd.infoP ?_; intro w1 hA1 hB1 hS1)
      | (go_at_call 47; refine (hR _ (HA.out.below hB1)).mono ?_; rintro e w' ⟨rfl, rfl⟩)
      | (with_reducible refine wpList_storeV (w := w1) (by with_unfolding_all rfl) 29 (.tmp 4) (.tmp 12) (by with_unfolding_all rfl) w.heap.size (pvs (.slice none 0 0) 0) (pvs (.slice none 0 0) 1) (by with_unfolding_all rfl) (by with_unfolding_all rfl) hA1 2 Tryd.sizeP (by with_unfolding_all rfl) (by with_unfolding_all rfl) (pvs_one _ _ _ _) ?_; intro w5 hA5 hB5 hF5 hS5))
    refine bodyPost_ret (results_V (t := 29) rfl _ w.heap.size _ rfl hA5 Tryd.undP 2 Tryd.sizeP rfl) rfl ⟨_, rfl, ?_, hB1.trans (hB5 _ (Nat.le_refl _))⟩
    rw [HL.out]
    exact NewM.nil _ _
  have ho' := okLv_of ho
  rw [ho] at hR
  by_cases hi : i < 0
  · have e1 : decide (i < 0) = true := decide_eq_true hi
    have hcd : prfC l 0 i = 9 := prfC_none (by omega) ho (by omega)
    have HL : Hid (incL l i = []) := by show _ = _; unfold incL; rw [hcd, if_neg (by decide)]
    rw [hcd]
    clear h hx hcd ho ho'
    go_enter Tryd.func37, Tryd.ntmps37
    go_wp2_with (first
      | (with_reducible refine wpList_allocV (w := w) (by with_unfolding_all rfl) 29 (by with_unfolding_all rfl) (pvs (.slice none 0 0) 0) Tryd.infoP ?_; intro w1 hA1 hB1 hS1)
      | (go_at_call 47; refine (hR _ (HA.out.below hB1)).mono ?_; rintro e w' ⟨rfl, rfl⟩)
      | (with_reducible refine wpList_storeV (w := w1) (by with_unfolding_all rfl) 29 (.tmp 4) (.tmp 21) (by with_unfolding_all rfl) w.heap.size (pvs (.slice none 0 0) 0) (pvs (.slice none 0 0) 9) (by with_unfolding_all rfl) (by with_unfolding_all rfl) hA1 2 Tryd.sizeP (by with_unfolding_all rfl) (by with_unfolding_all rfl) (pvs_one _ _ _ _) ?_; intro w5 hA5 hB5 hF5 hS5))
    refine bodyPost_ret (results_V (t := 29) rfl _ w.heap.size _ rfl hA5 Tryd.undP 2 Tryd.sizeP rfl) rfl ⟨_, rfl, ?_, hB1.trans (hB5 _ (Nat.le_refl _))⟩
    rw [HL.out]
    exact NewM.nil _ _
  have e1 : decide (i < 0) = false := decide_eq_false hi
  by_cases hi2 : (n : Int) ≤ i
  · have e2 : decide ((n : Int) ≤ i) = true := decide_eq_true hi2
    have hcd : prfC l 0 i = 9 := prfC_none (by omega) ho (by omega)
    have HL : Hid (incL l i = []) := by show _ = _; unfold incL; rw [hcd, if_neg (by decide)]
    rw [hcd]
    clear h hx hcd ho ho'
    go_enter Tryd.func37, Tryd.ntmps37
    go_wp2_with (first
      | (with_reducible refine wpList_allocV (w := w) (by with_unfolding_all rfl) 29 (by with_unfolding_all rfl) (pvs (.slice none 0 0) 0) Tryd.infoP ?_; intro w1 hA1 hB1 hS1)
      | (go_at_call 47; refine (hR _ (HA.out.below hB1)).mono ?_; rintro e w' ⟨rfl, rfl⟩)
      | (with_reducible refine wpList_storeV (w := w1) (by with_unfolding_all rfl) 29 (.tmp 4) (.tmp 21) (by with_unfolding_all rfl) w.heap.size (pvs (.slice none 0 0) 0) (pvs (.slice none 0 0) 9) (by with_unfolding_all rfl) (by with_unfolding_all rfl) hA1 2 Tryd.sizeP (by with_unfolding_all rfl) (by with_unfolding_all rfl) (pvs_one _ _ _ _) ?_; intro w5 hA5 hB5 hF5 hS5))
    refine bodyPost_ret (results_V (t := 29) rfl _ w.heap.size _ rfl hA5 Tryd.undP 2 Tryd.sizeP rfl) rfl ⟨_, rfl, ?_, hB1.trans (hB5 _ (Nat.le_refl _))⟩
    rw [HL.out]
    exact NewM.nil _ _
  have e2 : decide ((n : Int) ≤ i) = false := decide_eq_false hi2
  have hcd : prfC l 0 i = 0 := prfC_ok (by omega) ho (by omega)
  obtain ⟨k, rfl⟩ := Int.eq_ofNat_of_zero_le (show 0 ≤ i by omega)
  have hL : incL l k = pthT l k := by unfold incL; rw [hcd, if_pos rfl]; rfl
  rw [hcd, hL]
  have hP : ∀ w0, Hid (SA w0 a l) → Calls Tryd.prog 72 #[.slice a n c, .int .i64 (k : Int)] w0 fun e w' => ∃ v, e = .returned v ∧ w'.ownsRow w0.heap.size 9 1 v (pthT l k).length (svl (pthT l k)) ∧ Below w0.heap.size w0 w' := fun w0 h0 => specPath n a c n k l w0 (by omega) hn (by omega) (by omega) hc h0.out (by have := ho'.1; omega) hcM ho'.2
  generalize pthT l k = P at *
  clear h hx hcd ho ho' hL
  go_enter Tryd.func37, Tryd.ntmps37
  go_wp2_with (first
    | (with_reducible refine wpList_allocV (w := w) (by with_unfolding_all rfl) 29 (by with_unfolding_all rfl) (pvs (.slice none 0 0) 0) Tryd.infoP ?_; intro w1 hA1 hB1 hS1)
    | (go_at_call 47; refine (hR _ (HA.out.below hB1)).mono ?_; rintro e w' ⟨rfl, rfl⟩)
    | (go_at_call 72; refine (hP _ (HA.out.below hB1)).mono ?_; rintro e w2 ⟨v2, rfl, hO2, hB2⟩; obtain ⟨a2, c2, rfl, hl2, hc2, hm2, hsa2⟩ := own_sa hO2; have V2 := hA1.below hB2 (by omega))
    | (with_reducible refine wpList_storeV (w := w2) (by with_unfolding_all rfl) 29 (.tmp 4) (.tmp 25) (by with_unfolding_all rfl) w.heap.size (pvs (.slice none 0 0) 0) (pvs (.slice a2 P.length c2) 0) (by with_unfolding_all rfl) (by with_unfolding_all rfl) V2 2 Tryd.sizeP (by with_unfolding_all rfl) (by with_unfolding_all rfl) (pvs_one _ _ _ _) ?_; intro w5 hA5 hB5 hF5 hS5))
  have hO1 : w2.ownsRow (w.heap.size + 1) 9 1 (.slice a2 P.length c2) P.length (svl P) := by rw [← hS1]; exact hO2
  refine bodyPost_ret (results_V (t := 29) rfl _ w.heap.size _ rfl hA5 Tryd.undP 2 Tryd.sizeP rfl) rfl ⟨_, rfl, ?_, (hB1.trans (hB2.mono (by omega))).trans (hB5 _ (Nat.le_refl _))⟩
  exact NewM.far hO1 hF5
set_option maxRecDepth 100000 in
set_option maxHeartbeats 1000000 in
theorem specConM (a : Option Addr) (c n : Nat) (i : Int) (l : List ByteArray) (w : World) (hn : l.length = n) (hc : n ≤ c) (h : SA w a l) (hM : n ≤ 1000000000) (hcM : c ≤ 9223372036854775807) (hx : ∀ x ∈ l, x.size ≤ maxLen) :
    Calls Tryd.prog 42 #[.slice a n c, .int .i64 i] w fun e w' => ∃ v, e = .returned (.agg (pvs v (prfC l 1 i)).toArray) ∧ NewM w' w.heap.size v (conL l i) ∧ Below w.heap.size w w' := by
  by_cases hb : 400 < n
  · have hcd : prfC l 1 i = 2 := prfC_big (by omega)
    have HL : Hid (conL l i = []) := by show _ = _; unfold conL; rw [hcd, if_neg (by decide)]
    have d1 : decide ((400 : Int) < n) = true := decide_eq_true (by omega)
    rw [hcd]
    clear h hx hcd
    go_enter Tryd.func42, Tryd.ntmps42
    go_wp2_with (first
      | (with_reducible refine wpList_allocV (w := w) (by with_unfolding_all rfl) 29 (by with_unfolding_all rfl) (pvs (.slice none 0 0) 0) Tryd.infoP ?_; intro w1 hA1 hB1 hS1)
      | (with_reducible refine wpList_storeV (w := w1) (by with_unfolding_all rfl) 29 (.tmp 4) (.tmp 8) (by with_unfolding_all rfl) w.heap.size (pvs (.slice none 0 0) 0) (pvs (.slice none 0 0) 2) (by with_unfolding_all rfl) (by with_unfolding_all rfl) hA1 2 Tryd.sizeP (by with_unfolding_all rfl) (by with_unfolding_all rfl) (pvs_one _ _ _ _) ?_; intro w5 hA5 hB5 hF5 hS5))
    refine bodyPost_ret (results_V (t := 29) rfl _ w.heap.size _ rfl hA5 Tryd.undP 2 Tryd.sizeP rfl) rfl ⟨_, rfl, ?_, hB1.trans (hB5 _ (Nat.le_refl _))⟩
    rw [HL.out]
    exact NewM.nil _ _
  have d1 : decide ((400 : Int) < n) = false := decide_eq_false (by omega)
  have hR : ∀ w0, Hid (SA w0 a l) → Calls Tryd.prog 47 #[.slice a n c] w0 fun e w' => e = .returned (.bool (okLv l)) ∧ w0 = w' := fun w0 h0 => (specRight a c n l w0 hn h0.out hM hx).mono fun e w' h => ⟨h.1, h.2.symm⟩
  have HA : Hid (SA w a l) := h
  by_cases ho : okLv l = true
  case neg =>
    have hof : okLv l = false := by simpa using ho
    have hcd : prfC l 1 i = 1 := prfC_form (by omega) hof
    have HL : Hid (conL l i = []) := by show _ = _; unfold conL; rw [hcd, if_neg (by decide)]
    rw [hcd]
    rw [hof] at hR
    clear h hx hcd ho hof
    go_enter Tryd.func42, Tryd.ntmps42
    go_wp2_with (first
      | (with_reducible refine wpList_allocV (w := w) (by with_unfolding_all rfl) 29 (by with_unfolding_all rfl) (pvs (.slice none 0 0) 0) Tryd.infoP ?_; intro w1 hA1 hB1 hS1)
      | (go_at_call 47; refine (hR _ (HA.out.below hB1)).mono ?_; rintro e w' ⟨rfl, rfl⟩)
      | (with_reducible refine wpList_storeV (w := w1) (by with_unfolding_all rfl) 29 (.tmp 4) (.tmp 12) (by with_unfolding_all rfl) w.heap.size (pvs (.slice none 0 0) 0) (pvs (.slice none 0 0) 1) (by with_unfolding_all rfl) (by with_unfolding_all rfl) hA1 2 Tryd.sizeP (by with_unfolding_all rfl) (by with_unfolding_all rfl) (pvs_one _ _ _ _) ?_; intro w5 hA5 hB5 hF5 hS5))
    refine bodyPost_ret (results_V (t := 29) rfl _ w.heap.size _ rfl hA5 Tryd.undP 2 Tryd.sizeP rfl) rfl ⟨_, rfl, ?_, hB1.trans (hB5 _ (Nat.le_refl _))⟩
    rw [HL.out]
    exact NewM.nil _ _
  have ho' := okLv_of ho
  rw [ho] at hR
  by_cases hi : i < 1
  · have e1 : decide (i < 1) = true := decide_eq_true hi
    have hcd : prfC l 1 i = 9 := prfC_none (by omega) ho (by omega)
    have HL : Hid (conL l i = []) := by show _ = _; unfold conL; rw [hcd, if_neg (by decide)]
    rw [hcd]
    clear h hx hcd ho ho'
    go_enter Tryd.func42, Tryd.ntmps42
    go_wp2_with (first
      | (with_reducible refine wpList_allocV (w := w) (by with_unfolding_all rfl) 29 (by with_unfolding_all rfl) (pvs (.slice none 0 0) 0) Tryd.infoP ?_; intro w1 hA1 hB1 hS1)
      | (go_at_call 47; refine (hR _ (HA.out.below hB1)).mono ?_; rintro e w' ⟨rfl, rfl⟩)
      | (with_reducible refine wpList_storeV (w := w1) (by with_unfolding_all rfl) 29 (.tmp 4) (.tmp 21) (by with_unfolding_all rfl) w.heap.size (pvs (.slice none 0 0) 0) (pvs (.slice none 0 0) 9) (by with_unfolding_all rfl) (by with_unfolding_all rfl) hA1 2 Tryd.sizeP (by with_unfolding_all rfl) (by with_unfolding_all rfl) (pvs_one _ _ _ _) ?_; intro w5 hA5 hB5 hF5 hS5))
    refine bodyPost_ret (results_V (t := 29) rfl _ w.heap.size _ rfl hA5 Tryd.undP 2 Tryd.sizeP rfl) rfl ⟨_, rfl, ?_, hB1.trans (hB5 _ (Nat.le_refl _))⟩
    rw [HL.out]
    exact NewM.nil _ _
  have e1 : decide (i < 1) = false := decide_eq_false hi
  by_cases hi2 : (n : Int) < i
  · have e2 : decide ((n : Int) < i) = true := decide_eq_true hi2
    have hcd : prfC l 1 i = 9 := prfC_none (by omega) ho (by omega)
    have HL : Hid (conL l i = []) := by show _ = _; unfold conL; rw [hcd, if_neg (by decide)]
    rw [hcd]
    clear h hx hcd ho ho'
    go_enter Tryd.func42, Tryd.ntmps42
    go_wp2_with (first
      | (with_reducible refine wpList_allocV (w := w) (by with_unfolding_all rfl) 29 (by with_unfolding_all rfl) (pvs (.slice none 0 0) 0) Tryd.infoP ?_; intro w1 hA1 hB1 hS1)
      | (go_at_call 47; refine (hR _ (HA.out.below hB1)).mono ?_; rintro e w' ⟨rfl, rfl⟩)
      | (with_reducible refine wpList_storeV (w := w1) (by with_unfolding_all rfl) 29 (.tmp 4) (.tmp 21) (by with_unfolding_all rfl) w.heap.size (pvs (.slice none 0 0) 0) (pvs (.slice none 0 0) 9) (by with_unfolding_all rfl) (by with_unfolding_all rfl) hA1 2 Tryd.sizeP (by with_unfolding_all rfl) (by with_unfolding_all rfl) (pvs_one _ _ _ _) ?_; intro w5 hA5 hB5 hF5 hS5))
    refine bodyPost_ret (results_V (t := 29) rfl _ w.heap.size _ rfl hA5 Tryd.undP 2 Tryd.sizeP rfl) rfl ⟨_, rfl, ?_, hB1.trans (hB5 _ (Nat.le_refl _))⟩
    rw [HL.out]
    exact NewM.nil _ _
  have e2 : decide ((n : Int) < i) = false := decide_eq_false hi2
  have hcd : prfC l 1 i = 0 := prfC_ok (by omega) ho (by omega)
  obtain ⟨k, rfl⟩ := Int.eq_ofNat_of_zero_le (show 0 ≤ i by omega)
  have hL : conL l k = prT l k true := by unfold conL; rw [hcd, if_pos rfl]; rfl
  rw [hcd, hL]
  have hP : ∀ w0, Hid (SA w0 a l) → Calls Tryd.prog 75 #[.slice a n c, .int .i64 (k : Int), .bool true] w0 fun e w' => ∃ v, e = .returned v ∧ w'.ownsRow w0.heap.size 9 1 v (prT l k true).length (svl (prT l k true)) ∧ Below w0.heap.size w0 w' := fun w0 h0 => specProof n a c n k true l w0 (by omega) hn (by omega) (by omega) hc h0.out (by have := ho'.1; omega) hcM ho'.2
  generalize prT l k true = P at *
  clear h hx hcd ho ho' hL
  go_enter Tryd.func42, Tryd.ntmps42
  go_wp2_with (first
    | (with_reducible refine wpList_allocV (w := w) (by with_unfolding_all rfl) 29 (by with_unfolding_all rfl) (pvs (.slice none 0 0) 0) Tryd.infoP ?_; intro w1 hA1 hB1 hS1)
    | (go_at_call 47; refine (hR _ (HA.out.below hB1)).mono ?_; rintro e w' ⟨rfl, rfl⟩)
    | (go_at_call 75; refine (hP _ (HA.out.below hB1)).mono ?_; rintro e w2 ⟨v2, rfl, hO2, hB2⟩; obtain ⟨a2, c2, rfl, hl2, hc2, hm2, hsa2⟩ := own_sa hO2; have V2 := hA1.below hB2 (by omega))
    | (with_reducible refine wpList_storeV (w := w2) (by with_unfolding_all rfl) 29 (.tmp 4) (.tmp 25) (by with_unfolding_all rfl) w.heap.size (pvs (.slice none 0 0) 0) (pvs (.slice a2 P.length c2) 0) (by with_unfolding_all rfl) (by with_unfolding_all rfl) V2 2 Tryd.sizeP (by with_unfolding_all rfl) (by with_unfolding_all rfl) (pvs_one _ _ _ _) ?_; intro w5 hA5 hB5 hF5 hS5))
  have hO1 : w2.ownsRow (w.heap.size + 1) 9 1 (.slice a2 P.length c2) P.length (svl P) := by rw [← hS1]; exact hO2
  refine bodyPost_ret (results_V (t := 29) rfl _ w.heap.size _ rfl hA5 Tryd.undP 2 Tryd.sizeP rfl) rfl ⟨_, rfl, ?_, (hB1.trans (hB2.mono (by omega))).trans (hB5 _ (Nat.le_refl _))⟩
  exact NewM.far hO1 hF5
end Go.Proofs.YtoaoaagfnkpkdaaDoor
namespace Go.Proofs.YtoaoaagfnkpkdaaDoor
open Go.RowKit
set_option linter.unusedVariables false

theorem i64_of {n : Int} (h : -9223372036854775808 ≤ n ∧ n ≤ 9223372036854775807) : I64 n := by
  unfold I64
  simpa [Lit.wf, IntKind.min, IntKind.max, IntKind.signed, IntKind.bits] using h
theorem field_prf (a b : Value) (w : World) : (Instr.field 29 (.agg #[a, b]) 0).run Tryd.prog w = .ok a w := by kernel_rfl
theorem four_cell (w : World) (t : TypeId) (a b c d : Int) (ha : I64 a) (hb : I64 b) (hc : I64 c) (hd : I64 d) : ∀ j : Nat, j < 4 → ∃ z : Int, I64 z ∧ (w.alloc (.cells #[.int .i64 a, .int .i64 b, .int .i64 c, .int .i64 d] t)).cell? ⟨w.heap.size, j, none⟩ = some (.int .i64 z)
  | 0, _ => ⟨a, ha, by simp⟩
  | 1, _ => ⟨b, hb, by simp⟩
  | 2, _ => ⟨c, hc, by simp⟩
  | 3, _ => ⟨d, hd, by simp⟩
  | j + 4, h => by omega
theorem rootA_small (l : List ByteArray) : (rootA l).size ≤ 32 := by
  unfold rootA
  split
  · rw [rtT_size]; exact Nat.le_refl _
  · exact Nat.zero_le _
theorem leafA_small (x : ByteArray) : (leafA x).size ≤ 32 := by
  unfold leafA
  split
  · rw [leafD_size]; exact Nat.le_refl _
  · exact Nat.zero_le _
theorem pthT_hs2 : ∀ (m : Nat) (l : List ByteArray) (i : Nat), l.length ≤ m → ∀ x ∈ pthT l i, x.size = 32
  | 0, l, i, h, x, hx => by rw [pthT_one (by omega)] at hx; simp at hx
  | m + 1, l, i, h, x, hx => by
    by_cases h2 : 2 ≤ l.length
    · have hlt := Mer.half_lt h2
      have hp := Mer.half_pos l.length
      by_cases hi : i < Mer.half l.length
      · rw [pthT_lo h2 hi] at hx
        rcases List.mem_append.1 hx with hx | hx
        · exact pthT_hs2 m _ _ (by rw [List.length_take]; omega) x hx
        · rw [List.mem_singleton.1 hx]; exact rtT_size _
      · rw [pthT_hi h2 (by omega)] at hx
        rcases List.mem_append.1 hx with hx | hx
        · exact pthT_hs2 m _ _ (by rw [List.length_drop]; omega) x hx
        · rw [List.mem_singleton.1 hx]; exact rtT_size _
    · rw [pthT_one (by omega)] at hx; simp at hx
theorem prT_hs2 : ∀ (m : Nat) (l : List ByteArray) (k : Nat) (kn : Bool), l.length ≤ m → 1 ≤ k → k ≤ l.length → ∀ x ∈ prT l k kn, x.size = 32
  | 0, l, k, kn, h, h1, h2, x, hx => by omega
  | m + 1, l, k, kn, h, h1, h2, x, hx => by
    by_cases hk : k = l.length
    · subst hk
      rw [prT_all h1] at hx
      cases kn
      · rw [if_neg (by decide)] at hx; rw [List.mem_singleton.1 hx]; exact rtT_size _
      · rw [if_pos rfl] at hx; simp at hx
    · have hl2 : 2 ≤ l.length := by omega
      have hlt := Mer.half_lt hl2
      have hp := Mer.half_pos l.length
      by_cases hc : k ≤ Mer.half l.length
      · rw [prT_lo h1 (by omega) hc] at hx
        rcases List.mem_append.1 hx with hx | hx
        · exact prT_hs2 m _ _ _ (by rw [List.length_take]; omega) h1 (by rw [List.length_take]; omega) x hx
        · rw [List.mem_singleton.1 hx]; exact rtT_size _
      · rw [prT_hi h1 (by omega) (by omega)] at hx
        rcases List.mem_append.1 hx with hx | hx
        · exact prT_hs2 m _ _ _ (by rw [List.length_drop]; omega) (by omega) (by rw [List.length_drop]; omega) x hx
        · rw [List.mem_singleton.1 hx]; exact rtT_size _
theorem few_inc {l : List ByteArray} (h : l.length ≤ 1024) (i : Int) : Few (incL l i) 400 := by
  unfold incL
  split
  · refine ⟨by have := pthT_len h i.toNat; omega, fun x hx => by rw [pthT_hs2 _ l _ (Nat.le_refl _) x hx]; omega⟩
  · exact ⟨Nat.zero_le _, fun x hx => by simp at hx⟩
theorem few_con {l : List ByteArray} (h : l.length ≤ 1024) {k : Nat} (h1 : 1 ≤ k) (h2 : k ≤ l.length) : Few (conL l (k : Int)) 400 := by
  unfold conL
  split
  · rw [Int.toNat_natCast]
    refine ⟨by have := prT_len h h1 h2 true; omega, fun x hx => by rw [prT_hs2 _ l _ true (Nat.le_refl _) h1 h2 x hx]; omega⟩
  · exact ⟨Nat.zero_le _, fun x hx => by simp at hx⟩
/- What stands between two draws behind the proof. -/
structure KpE (w : World) (base g : Nat) (a : Option Addr) (len cap : Nat) (u : Value) (ps : List ByteArray) (w' : World) : Prop where
  below : Below w.heap.size w w'
  src : SrcAt w' g a len cap
  may : NewM w' base u ps
  hg : w.heap.size ≤ g
  gb : g < base
theorem KpE.draw {w w' w2 : World} {base g : Nat} {a : Option Addr} {len cap : Nat} {u : Value} {ps : List ByteArray} (h : Hid (KpE w base g a len cap u ps w')) (h1 : SrcAt w2 g a len cap) (h2 : w'.grownBy w2 (some g)) : Hid (KpE w base g a len cap u ps w2) :=
  ⟨Below.by h.out.below h2 h.out.below.size h.out.hg, h1, h.out.may.grown h2 h.out.gb, h.out.hg, h.out.gb⟩
theorem KpE.call {w w' w2 : World} {base g : Nat} {a : Option Addr} {len cap : Nat} {u : Value} {ps : List ByteArray} (h : Hid (KpE w base g a len cap u ps w')) (hb : Below w'.heap.size w' w2) : Hid (KpE w base g a len cap u ps w2) :=
  ⟨h.out.below.trans (hb.mono h.out.below.size), h.out.src.below hb h.out.src.room, h.out.may.below hb, h.out.hg, h.out.gb⟩
theorem KpE.spoilt {w w' w2 : World} {base g : Nat} {a : Option Addr} {len cap : Nat} {u u2 : Value} {ps ps2 : List ByteArray} (h : Hid (KpE w base g a len cap u ps w')) (hd : Hid (KpD w' g a len cap u2 ps2 w2)) : Hid (KpE w w'.heap.size g a len cap u2 ps2 w2) :=
  ⟨Below.by h.out.below hd.out.gr h.out.below.size h.out.hg, hd.out.src, NewM.own hd.out.own, h.out.hg, hd.out.lt⟩
/- What stands ahead of the proof: the leaves. -/
structure KpF (w w1 : World) (g : Nat) (a : Option Addr) (len cap gl m cl : Nat) (L : List ByteArray) (w' : World) : Prop where
  d : KpD w1 g a len cap (.slice (some ⟨gl, 0, none⟩) m cl) L w'
  b : Below w.heap.size w w1
  lm : L.length = m
  lt : g < w1.heap.size
theorem KpF.sa {w w1 w' : World} {g : Nat} {a : Option Addr} {len cap gl m cl : Nat} {L : List ByteArray} (h : Hid (KpF w w1 g a len cap gl m cl L w')) : Hid (SA w' (some ⟨gl, 0, none⟩) L) := by
  obtain ⟨b, c, h1, h2, h3, h4, h5⟩ := own_sa h.out.d.own
  injection h1 with h1 h6 h7
  rw [← h1] at h5
  exact h5
theorem KpE.first {w w1 w4 w5 : World} {g : Nat} {a : Option Addr} {len cap gl m cl : Nat} {L : List ByteArray} {u : Value} {P : List ByteArray} (h : Hid (KpF w w1 g a len cap gl m cl L w4)) (hM : NewM w5 w4.heap.size u P) (hB : Below w4.heap.size w4 w5) (hg : w.heap.size ≤ g) : Hid (KpE w w4.heap.size g a len cap u P w5) := by
  have b4 : Below w.heap.size w w4 := Below.by h.out.b h.out.d.gr h.out.b.size hg
  exact ⟨b4.trans (hB.mono b4.size), h.out.d.src.below hB h.out.d.src.room, hM, hg, h.out.d.src.room⟩
set_option maxRecDepth 100000 in
set_option maxHeartbeats 2000000 in
theorem drawInc (len cap : Nat) (a : Option Addr) (w : World) (hb : Bytes w a len) (hs : len ≤ 9223372036854775807) :
    Calls Tryd.prog 23 #[.slice a len cap] w fun e w' => ∃ (x y : ByteArray) (i n : Int) (u : Value) (ps : List ByteArray), e = .returned (.tuple #[.string x, .int .i64 i, .int .i64 n, u, .string y]) ∧ x.size ≤ 1000 ∧ y.size ≤ 1000 ∧ I64 i ∧ I64 n ∧ Few ps 401 ∧ MayS w' u ps ∧ Below w.heap.size w w' := by
  have HS : Hid _ := source_any len cap a w hb hs
  clear hb
  go_enter Tryd.func23, Tryd.ntmps23
  go_wp2_with fail
  refine Calls.mono HS.out ?_
  rintro e w1 ⟨g, rfl, hg, h1, h2⟩
  have H2 : Hid (Below w.heap.size w w1) := h2
  have HR1 : Hid (g < w1.heap.size) := h1.room
  have HL : Hid _ := leaves_any g len cap a w1 h1
  clear h1 h2 HS
  go_wp2_with fail
  refine Calls.mono HL.out ?_
  rintro e w2 ⟨v, l, rfl, hv, hl, hO, h3, h4⟩
  have HK2 : Hid (KpD w1 g a len cap v l w2) := ⟨hO, h3, h4, HR1.out⟩
  have HV : Hid (v ≠ .slice none 0 0) := hv
  have hl65 := hl.len
  have HLs : Hid (∀ y ∈ l ++ [(⟨#[122]⟩ : ByteArray)], y.size ≤ 4) := Lvs.snoc hl.small (by decide)
  have B3 : Below w2.heap.size w2 (w2.alloc (.cells #[.string ⟨#[122]⟩] 9)) := (Below.refl _ _).alloc (Nat.le_refl _) _
  have HB3 : Hid (Below w1.heap.size w2 (w2.alloc (.cells #[.string ⟨#[122]⟩] 9))) := B3.mono h4.size
  have HO3 : Hid ((w2.alloc (.cells #[.string ⟨#[122]⟩] 9)).ownsRow w1.heap.size 9 1 v l.length (svl l)) := own_below hO B3
  have HX3 : Hid (SA (w2.alloc (.cells #[.string ⟨#[122]⟩] 9)) (some ⟨w2.heap.size, 0, none⟩) [⟨#[122]⟩]) := lit_sa w2 ⟨#[122]⟩ 9
  have hz3 : w1.heap.size ≤ (w2.alloc (.cells #[.string ⟨#[122]⟩] 9)).heap.size := Nat.le_trans h4.size B3.size
  clear h3 h4 hO hv hl HL B3
  go_wp2_with (first
    | (at_builtin; refine wpList_append_strs rfl _ _ rfl w1.heap.size v l.length 1 l [⟨#[122]⟩] rfl HO3.out w2.heap.size 0 1 rfl rfl HX3.out (by omega) hz3 ?_; intro v3 w3 hO3 hB3 hv3; obtain ⟨gl, cl, rfl, hll, hgl, hcl, hml, hsl⟩ := own_some hO3 (hv3 HV.out); have HK3 : Hid (KpD w1 g a len cap (.slice (some ⟨gl, 0, none⟩) (l.length + 1) cl) (l ++ [⟨#[122]⟩]) w3) := KpD.app HK2 (by rw [hll]; exact hO3) (HB3.out.trans hB3); clear hO3 hB3 hv3 hsl HK2 HO3 HX3 HB3 hz3 HV)
    | fail)
  obtain ⟨L, hL⟩ : ∃ L, l ++ [(⟨#[122]⟩ : ByteArray)] = L := ⟨_, rfl⟩
  obtain ⟨m, hmm⟩ : ∃ m, l.length + 1 = m := ⟨_, rfl⟩
  rw [hL] at HK3 HLs hll
  rw [hmm] at HK3 hll hcl
  have HLm : Hid (L.length = m) := hll
  have hm1 : 1 ≤ m := by omega
  have hm2 : m ≤ 66 := by omega
  have hNm : ∀ w0, SrcAt w0 g a len cap → Calls Tryd.prog 62 #[.pointer (some ⟨g, 0, none⟩), .int .i64 (m : Int)] w0 fun e w' => ∃ v : Int, e = .returned (.int .i64 v) ∧ 0 ≤ v ∧ v < (m : Int) ∧ SrcAt w' g a len cap ∧ w0.grownBy w' (some g) := fun w0 h => n_any g len cap a m w0 h (by omega) (by omega)
  have em : (l.length : Int) + 1 = (m : Int) := by omega
  simp only [hmm, em]
  clear hL hmm hl65 em hll
  refine (hNm _ HK3.out.src).mono ?_
  rintro e w4 ⟨i0, rfl, hi0, hi1, k1, k2⟩
  obtain ⟨i, rfl⟩ := Int.eq_ofNat_of_zero_le hi0
  have HK4 := KpD.draw HK3 k1 k2
  have HK4 : Hid (KpF w w1 g a len cap gl m cl L w4) := ⟨HK4.out, H2.out, HLm.out, HR1.out⟩
  have HSA : Hid (SA w4 (some ⟨gl, 0, none⟩) L) := KpF.sa HK4
  clear k1 k2 HK3 hNm hi0
  have hSP : ∀ w0, SA w0 (some ⟨gl, 0, none⟩) L → Calls Tryd.prog 37 #[.slice (some ⟨gl, 0, none⟩) m cl, .int .i64 (i : Int)] w0 fun e w' => ∃ v, e = .returned (.agg #[v, .int .i64 (prfC L 0 (i : Int))]) ∧ NewM w' w0.heap.size v (incL L (i : Int)) ∧ Below w0.heap.size w0 w' := fun w0 h => specIncM _ cl m (i : Int) L w0 HLm.out hcl h (by omega) (by unfold maxLen at hml; omega) (fun x hx => by have := HLs.out x hx; unfold maxLen; omega)
  have hx : ∃ x, L[i]? = some x := ⟨L[i]'(by have := HLm.out; omega), List.getElem?_eq_getElem _⟩
  obtain ⟨x, hx⟩ := hx
  have hxs : x.size ≤ 4 := by obtain ⟨h, he⟩ := List.getElem?_eq_some_iff.1 hx; rw [← he]; exact HLs.out _ (List.getElem_mem h)
  have hXc : ∀ w0, SA w0 (some ⟨gl, 0, none⟩) L → w0.cell? ⟨gl, i, none⟩ = some (.string x) := fun w0 h => by
    obtain ⟨hi', he⟩ := List.getElem?_eq_some_iff.1 hx
    obtain ⟨b, o, e, hc⟩ := h i hi'
    injection e with e
    injection e with e1 e2
    subst e1 e2
    rw [Nat.zero_add, he] at hc
    exact hc
  have HXc : Hid _ := hXc
  have hLH : ∀ w0, Calls Tryd.prog 31 #[.string x] w0 fun e w' => e = .returned (.string (leafA x)) ∧ Below w0.heap.size w0 w' := fun w0 => specLeafH x w0 (by unfold maxLen; omega)
  have hx0 := leafA_small x
  have hy0 := rootA_small L
  have HFw : Hid (Few (incL L (i : Int)) 400) := few_inc (by have := HLm.out; omega) _
  have hTR : ∀ w0, SA w0 (some ⟨gl, 0, none⟩) L → Calls Tryd.prog 15 #[.slice (some ⟨gl, 0, none⟩) m cl] w0 fun e w' => e = .returned (.string (rootA L)) ∧ Below w0.heap.size w0 w' := fun w0 h => specTree _ cl m L w0 HLm.out hcl h (by omega) (by unfold maxLen at hml; omega) (fun x hx => by have := HLs.out x hx; unfold maxLen; omega)
  generalize leafA x = X at *
  generalize rootA L = Y at *
  generalize incL L (i : Int) = P at *
  generalize prfC L 0 (i : Int) = z at *
  have hfp := field_prf
  have i0 : (0 : Int) ≤ (i : Int) := by omega
  have i1 : (i : Int) < (m : Int) := by omega
  clear hx hXc
  go_wp2_with (first
    | (go_at_call 37; refine (hSP _ HSA.out).mono ?_; rintro e w5 ⟨u, rfl, hM5, hB5⟩; have S5 := HSA.out.below hB5; have c5 := HXc.out w5 S5)
    | (go_at_call 31; refine (hLH _).mono ?_; rintro e w6 ⟨rfl, hB6⟩; have S6 := S5.below hB6)
    | (go_at_call 15; refine (hTR _ S6).mono ?_; rintro e w7 ⟨rfl, hB7⟩; have HE7 : Hid (KpE w w4.heap.size g a len cap u P w7) := KpE.call (KpE.call (KpE.first HK4 hM5 hB5 hg) hB6) hB7; clear hB5 hB6 hB7 S5 S6 c5 hM5)
    | fail)
  have HO3 : Hid _ := one_any g len cap a 3 w7 HE7.out.src (by omega) (by omega)
  refine Calls.mono HO3.out ?_
  rintro e w8 ⟨bb, rfl, k1, k2⟩
  have HE8 := KpE.draw HE7 k1 k2
  clear k1 k2 HE7 HO3 HK4 HSA HLs HLm H2 HR1 hSP hTR
  cases bb
  case false =>
    go_wp2
    exact bodyPost_ret (v := .tuple #[.string X, .int .i64 (i : Int), .int .i64 (m : Int), u, .string Y]) (by simp [results, Tryd.results23, go_sem]) rfl ⟨X, Y, (i : Int), (m : Int), u, P, rfl, (by omega), (by omega), (i64_of (by omega)), (i64_of (by omega)), (HFw.out.mono (by omega)), HE8.out.may.may, HE8.out.below⟩
  have HN5 : Hid _ := n_any g len cap a 5 w8 HE8.out.src (by omega) (by omega)
  go_wp2_with fail
  refine Calls.mono HN5.out ?_
  rintro e w9 ⟨z5, rfl, hz0, hz1, k1, k2⟩
  have HE9 := KpE.draw HE8 k1 k2
  clear k1 k2 HE8 HN5
  rcases (by omega : z5 = 0 ∨ z5 = 1 ∨ z5 = 2 ∨ z5 = 3 ∨ z5 = 4) with rfl | rfl | rfl | rfl | rfl
  · as_aux_lemma =>
    have HEd : Hid _ := edge_any g len cap a w9 HE9.out.src
    go_wp2_with fail
    refine Calls.mono HEd.out ?_
    rintro e w10 ⟨q, rfl, hq, k1, k2⟩
    have HE10 := KpE.draw HE9 k1 k2
    have B11 : Below w10.heap.size w10 (w10.alloc (.cells #[.int .i64 (-1), .int .i64 ((i : Int) + 1), .int .i64 (m : Int), .int .i64 q] 2)) := (Below.refl _ _).alloc (Nat.le_refl _) _
    have HE11 := KpE.call HE10 B11
    have HC11 : Hid _ := four_cell w10 2 (-1) ((i : Int) + 1) (m : Int) q (i64_of (by omega)) (i64_of (by omega)) (i64_of (by omega)) hq
    have HN4 : Hid _ := n_any g len cap a 4 _ HE11.out.src (by omega) (by omega)
    have hgw : g < w10.heap.size := HE10.out.src.room
    clear k1 k2 HE10 B11 HEd
    go_wp2_with fail
    refine Calls.mono HN4.out ?_
    rintro e w12 ⟨j0, rfl, hj0, hj1, k1, k2⟩
    obtain ⟨j, rfl⟩ := Int.eq_ofNat_of_zero_le hj0
    obtain ⟨q2, hq2, hc11⟩ := HC11.out j (by omega)
    have hc12 := k2.cell hc11 (by intro e; injection e with e; have : w10.heap.size = g := e; omega)
    have HE12 := KpE.draw HE11 k1 k2
    have j0' : (0 : Int) ≤ (j : Int) := by omega
    have j1' : (j : Int) < 4 := by omega
    clear k1 k2 HE11 HC11 HN4 hc11
    generalize w10.heap.size = g10 at *
    go_wp2
    exact bodyPost_ret (v := .tuple #[.string X, .int .i64 q2, .int .i64 (m : Int), u, .string Y]) (by simp [results, Tryd.results23, go_sem]) rfl ⟨X, Y, q2, (m : Int), u, P, rfl, (by omega), (by omega), hq2, (i64_of (by omega)), (HFw.out.mono (by omega)), HE12.out.may.may, HE12.out.below⟩
  · as_aux_lemma =>
    have HEd : Hid _ := edge_any g len cap a w9 HE9.out.src
    go_wp2_with fail
    refine Calls.mono HEd.out ?_
    rintro e w10 ⟨q, rfl, hq, k1, k2⟩
    have HE10 := KpE.draw HE9 k1 k2
    have B11 : Below w10.heap.size w10 (w10.alloc (.cells #[.int .i64 0, .int .i64 ((m : Int) + 1), .int .i64 ((m : Int) - 1), .int .i64 q] 2)) := (Below.refl _ _).alloc (Nat.le_refl _) _
    have HE11 := KpE.call HE10 B11
    have HC11 : Hid _ := four_cell w10 2 0 ((m : Int) + 1) ((m : Int) - 1) q (i64_of (by omega)) (i64_of (by omega)) (i64_of (by omega)) hq
    have HN4 : Hid _ := n_any g len cap a 4 _ HE11.out.src (by omega) (by omega)
    have hgw : g < w10.heap.size := HE10.out.src.room
    clear k1 k2 HE10 B11 HEd
    go_wp2_with fail
    refine Calls.mono HN4.out ?_
    rintro e w12 ⟨j0, rfl, hj0, hj1, k1, k2⟩
    obtain ⟨j, rfl⟩ := Int.eq_ofNat_of_zero_le hj0
    obtain ⟨q2, hq2, hc11⟩ := HC11.out j (by omega)
    have hc12 := k2.cell hc11 (by intro e; injection e with e; have : w10.heap.size = g := e; omega)
    have HE12 := KpE.draw HE11 k1 k2
    have j0' : (0 : Int) ≤ (j : Int) := by omega
    have j1' : (j : Int) < 4 := by omega
    clear k1 k2 HE11 HC11 HN4 hc11
    generalize w10.heap.size = g10 at *
    go_wp2
    exact bodyPost_ret (v := .tuple #[.string X, .int .i64 (i : Int), .int .i64 q2, u, .string Y]) (by simp [results, Tryd.results23, go_sem]) rfl ⟨X, Y, (i : Int), q2, u, P, rfl, (by omega), (by omega), (i64_of (by omega)), hq2, (HFw.out.mono (by omega)), HE12.out.may.may, HE12.out.below⟩
  · as_aux_lemma =>
    have HSp : Hid _ := spoil_any g len cap a w9 HE9.out.src u P HFw.out HE9.out.may.may
    go_wp2_with fail
    refine Calls.mono HSp.out ?_
    rintro e w10 ⟨v2, P2, rfl, hv2, hf2, hd2⟩
    have HE10 := KpE.spoilt HE9 hd2
    have HF2 : Hid (Few P2 401) := hf2
    clear HSp hd2 HE9 hv2 hf2
    go_wp2
    exact bodyPost_ret (v := .tuple #[.string X, .int .i64 (i : Int), .int .i64 (m : Int), v2, .string Y]) (by simp [results, Tryd.results23, go_sem]) rfl ⟨X, Y, (i : Int), (m : Int), v2, P2, rfl, (by omega), (by omega), (i64_of (by omega)), (i64_of (by omega)), HF2.out, HE10.out.may.may, HE10.out.below⟩
  · as_aux_lemma =>
    have HAy : Hid _ := any5 g len cap a w9 HE9.out.src
    go_wp2_with fail
    refine Calls.mono HAy.out ?_
    rintro e w10 ⟨X2, rfl, hx2, k1, k2⟩
    have HE10 := KpE.draw HE9 k1 k2
    clear HAy k1 k2 HE9
    go_wp2
    exact bodyPost_ret (v := .tuple #[.string X2, .int .i64 (i : Int), .int .i64 (m : Int), u, .string Y]) (by simp [results, Tryd.results23, go_sem]) rfl ⟨X2, Y, (i : Int), (m : Int), u, P, rfl, (by omega), (by omega), (i64_of (by omega)), (i64_of (by omega)), (HFw.out.mono (by omega)), HE10.out.may.may, HE10.out.below⟩
  · as_aux_lemma =>
    have HAy : Hid _ := any5 g len cap a w9 HE9.out.src
    go_wp2_with fail
    refine Calls.mono HAy.out ?_
    rintro e w10 ⟨Y2, rfl, hy2, k1, k2⟩
    have HE10 := KpE.draw HE9 k1 k2
    clear HAy k1 k2 HE9
    go_wp2
    exact bodyPost_ret (v := .tuple #[.string X, .int .i64 (i : Int), .int .i64 (m : Int), u, .string Y2]) (by simp [results, Tryd.results23, go_sem]) rfl ⟨X, Y2, (i : Int), (m : Int), u, P, rfl, (by omega), (by omega), (i64_of (by omega)), (i64_of (by omega)), (HFw.out.mono (by omega)), HE10.out.may.may, HE10.out.below⟩
end Go.Proofs.YtoaoaagfnkpkdaaDoor
