/- The draws for trees: leaves, hashes; none changes what was there but the source. -/
import Derived.Test.YtdfglpbappeoaabDoorJn2
import Derived.Test.YtdfglpbappeoaabDoorOwnS
import Derived.Test.YtdfglpbappeoaabDoorLf
namespace Go.Proofs.YtdfglpbappeoaabDoor
open Go.RowKit
set_option linter.unusedVariables false

/- Leaves that were drawn: few, and short. -/
theorem own_mono {w : World} {b b' e size : Nat} {v : Value} {n : Nat} {xs : List Value} (h : w.ownsRow b e size v n xs) (hb : b' ≤ b) : w.ownsRow b' e size v n xs := by
  refine ⟨h.1, ?_⟩
  rcases h.2 with h0 | ⟨g, cap, cur, h1, h2, h3⟩
  · exact .inl h0
  · exact .inr ⟨g, cap, cur, h1, by omega, h3⟩
def slLen : Value → Nat
  | .slice _ n _ => n
  | _ => 0
structure Lvs (l : List ByteArray) : Prop where
  len : l.length ≤ 65
  small : ∀ x ∈ l, x.size ≤ 4
theorem Lvs.snoc {l : List ByteArray} {x : ByteArray} (h : ∀ y ∈ l, y.size ≤ 4) (hx : x.size ≤ 4) : ∀ y ∈ l ++ [x], y.size ≤ 4 := fun y hy => by
  rcases List.mem_append.1 hy with h1 | h1
  · exact h y h1
  · rw [List.mem_singleton.1 h1]; exact hx
theorem lit_sa (w : World) (x : ByteArray) (t : TypeId) : SA (w.alloc (.cells #[.string x] t)) (some ⟨w.heap.size, 0, none⟩) [x] := fun k hk => ⟨w.heap.size, 0, rfl, by
  have : k = 0 := by simpa using hk
  subst this
  simp⟩
set_option maxRecDepth 100000 in
set_option maxHeartbeats 2000000 in
theorem leaves_any (g len cap : Nat) (a : Option Addr) (w : World) (h : SrcAt w g a len cap) :
    Calls Tryd.prog 33 #[.pointer (some ⟨g, 0, none⟩)] w fun e w' => ∃ v l, e = .returned v ∧ v ≠ .slice none 0 0 ∧ Lvs l ∧ w'.ownsRow w.heap.size 9 1 v l.length (svl l) ∧ SrcAt w' g a len cap ∧ w.grownBy w' (some g) := by
  have HN : Hid (∀ (most : Int) w1, 0 < most → most ≤ 1000 → SrcAt w1 g a len cap → Calls Tryd.prog 52 #[.pointer (some ⟨g, 0, none⟩), .int .i64 most] w1 fun e w' => ∃ v : Int, e = .returned (.int .i64 v) ∧ 0 ≤ v ∧ v < most ∧ SrcAt w' g a len cap ∧ w1.grownBy w' (some g)) := fun most w1 k1 k2 h1 => n_any g len cap a most w1 h1 k1 (by omega)
  have HY : Hid (∀ (m : Nat) w1, m ≤ 1000 → SrcAt w1 g a len cap → Calls Tryd.prog 85 #[.pointer (some ⟨g, 0, none⟩), .int .i64 (m : Int)] w1 fun e w' => ∃ x : ByteArray, e = .returned (.string x) ∧ x.size = m ∧ SrcAt w' g a len cap ∧ w1.grownBy w' (some g)) := fun m w1 k1 h1 => bytes_any g len cap m a w1 h1 (by omega)
  have HO1 : Hid (∀ w1, SrcAt w1 g a len cap → Calls Tryd.prog 55 #[.pointer (some ⟨g, 0, none⟩), .int .i64 60] w1 fun e w' => ∃ b : Bool, Hid (e = .returned (.bool b) ∧ SrcAt w' g a len cap ∧ w1.grownBy w' (some g))) := fun w1 h1 => one_any g len cap a 60 w1 h1 (by omega) (by omega)
  have hgw := h.room
  have B1 : Below w.heap.size w (w.alloc (.cells #[] 9)) := (Below.refl _ _).alloc (Nat.le_refl _) _
  have hs1 : SrcAt (w.alloc (.cells #[] 9)) g a len cap := h.below B1 hgw
  obtain ⟨sz, hsz0, hsz1, hc3⟩ := hs1.c3
  have HS1 : Hid (SrcAt (w.alloc (.cells #[] 9)) g a len cap) := hs1
  have HW1 : Hid ((w.alloc (.cells #[] 9)).ownsRow w.heap.size 9 1 (.slice (some ⟨w.heap.size, 0, none⟩) 0 0) 0 (svl [])) := World.ownsRow_made w #[] 0 (Nat.le_refl _) (Nat.zero_le _) rfl
  have HG1 : Hid (w.grownBy (w.alloc (.cells #[] 9)) (some g)) := grownBy_below (World.grownBy.refl _ _) B1
  clear h hs1 B1
  go_enter Tryd.func33, Tryd.ntmps33
  go_wp2_with fail
  refine (HN.out (3 + 2 * sz) _ (by omega) (by omega) HS1.out).mono ?_
  rintro e w2 ⟨v, rfl, hv0, hv1, h1, h2⟩
  obtain ⟨k0, rfl⟩ := Int.eq_ofNat_of_zero_le hv0
  have HW2 : Hid (w2.ownsRow w.heap.size 9 1 (.slice (some ⟨w.heap.size, 0, none⟩) 0 0) 0 (svl [])) := HW1.out.kept h2 (Or.inr (by intro e; have := (HW1.out.lt _ e).1; omega))
  have HS2 : Hid (SrcAt w2 g a len cap) := h1
  have HG2 : Hid (w.grownBy w2 (some g)) := grownBy_trans HG1.out h2
  have hk0 : k0 ≤ 26 := by omega
  clear h1 h2 HS1 HW1 HG1 hc3
  go_wp2_with fail
  go_loopw [3, 4] (fun vl vk wr => ∃ (k : Nat) (l : List ByteArray), vk = .int .i64 (k : Int) ∧ k + l.length = k0 ∧ (∀ x ∈ l, x.size ≤ 4) ∧ vl ≠ .slice none 0 0 ∧ wr.ownsRow w.heap.size 9 1 vl l.length (svl l) ∧ SrcAt wr g a len cap ∧ w.grownBy wr (some g)) (fun _ vk _ => (intOf vk).toNat)
  case atStart => exact ⟨k0, [], rfl, by simp, fun x hx => by simp at hx, by simp, HW2.out, HS2.out, HG2.out⟩
  case round =>
    clear HS2 HW2 HG2
    obtain ⟨k, l, rfl, hkl, hsm, hnn, hown, hsrc, hgr⟩ := hrel
    have HSm : Hid (∀ x ∈ l, x.size ≤ 4) := hsm
    have HS : Hid (SrcAt wr g a len cap) := hsrc
    have HG : Hid (w.grownBy wr (some g)) := hgr
    have HO : Hid (wr.ownsRow w.heap.size 9 1 u3 l.length (svl l)) := hown
    have HV : Hid (u3 ≠ .slice none 0 0) := hnn
    clear hsm hsrc hgr hown hnn
    by_cases hk : 0 < k
    · have hk' : (0 : Int) < (k : Int) := by omega
      go_wp2_with fail
      refine (HN.out 4 _ (by omega) (by omega) HS.out).mono ?_
      rintro e w3 ⟨v, rfl, hv0, hv1, h1, h2⟩
      obtain ⟨m, rfl⟩ := Int.eq_ofNat_of_zero_le hv0
      have HO3 : Hid (w3.ownsRow w.heap.size 9 1 u3 l.length (svl l)) := HO.out.kept h2 (Or.inr (by intro e; have := (HO.out.lt _ e).1; omega))
      have HS3 : Hid (SrcAt w3 g a len cap) := h1
      have HG3 : Hid (w.grownBy w3 (some g)) := grownBy_trans HG.out h2
      clear h1 h2 HS HG HO
      go_wp2_with fail
      refine (HY.out m _ (by omega) HS3.out).mono ?_
      rintro e w4 ⟨x, rfl, hx, h1, h2⟩
      have HO4 : Hid (w4.ownsRow w.heap.size 9 1 u3 l.length (svl l)) := HO3.out.kept h2 (Or.inr (by intro e; have := (HO3.out.lt _ e).1; omega))
      have HS4 : Hid (SrcAt w4 g a len cap) := h1
      have HG4 : Hid (w.grownBy w4 (some g)) := grownBy_trans HG3.out h2
      have B5 : Below w4.heap.size w4 (w4.alloc (.cells #[.string x] 9)) := (Below.refl _ _).alloc (Nat.le_refl _) _
      have hO5 := own_below HO4.out B5
      have hx5 := lit_sa w4 x 9
      have hS5 : SrcAt (w4.alloc (.cells #[.string x] 9)) g a len cap := HS4.out.below B5 HS4.out.room
      have hG5 : w.grownBy (w4.alloc (.cells #[.string x] 9)) (some g) := grownBy_below HG4.out (B5.mono HG4.out.size)
      have HX5 : Hid (_ ∧ _ ∧ _ ∧ _) := ⟨hO5, hx5, hS5, hG5⟩
      have hz5 : w.heap.size ≤ (w4.alloc (.cells #[.string x] 9)).heap.size := hG5.size
      have hll : l.length + 1 ≤ 1000000 := by omega
      clear h1 h2 HS3 HG3 HO3 HS4 HG4 HO4 B5 hO5 hx5 hS5 hG5
      go_wp2_with (first
        | (at_builtin; refine wpList_append_strs rfl _ _ rfl w.heap.size u3 l.length 1 l [x] rfl HX5.out.1 w4.heap.size 0 1 rfl rfl HX5.out.2.1 hll hz5 ?_; intro v6 w6 hO6 hB6 hv6))
      have HO6 : Hid (w6.ownsRow w.heap.size 9 1 v6 (l ++ [x]).length (svl (l ++ [x]))) := by rw [List.length_append]; exact hO6
      have HS6 : Hid (SrcAt w6 g a len cap) := HX5.out.2.2.1.below hB6 hgw
      have HG6 : Hid (w.grownBy w6 (some g)) := grownBy_below HX5.out.2.2.2 hB6
      have HV6 : Hid (v6 ≠ .slice none 0 0) := hv6 HV.out
      have HSm6 : Hid (∀ y ∈ l ++ [x], y.size ≤ 4) := Lvs.snoc HSm.out (by omega)
      clear hO6 hB6 hv6 HX5 HV HSm
      go_wp2
      go_roundw
      case rel => exact ⟨k - 1, l ++ [x], by go_num, by rw [List.length_append]; simp; omega, HSm6.out, HV6.out, HO6.out, HS6.out, HG6.out⟩
      case measure => simp [intOf]; omega
    · obtain rfl : k = 0 := by omega
      have hlb : l.length ≤ 26 := by omega
      go_wp2_with fail
      refine (HO1.out _ HS.out).mono ?_
      rintro e w3 ⟨bb, rfl, h1, h2⟩
      have HO3 : Hid (w3.ownsRow w.heap.size 9 1 u3 l.length (svl l)) := HO.out.kept h2 (Or.inr (by intro e; have := (HO.out.lt _ e).1; omega))
      have HS3 : Hid (SrcAt w3 g a len cap) := h1
      have HG3 : Hid (w.grownBy w3 (some g)) := grownBy_trans HG.out h2
      clear h1 h2 HS HG HO HO1
      cases bb
      · go_wp2
        go_ret
        exact ⟨u3, l, rfl, HV.out, ⟨by omega, HSm.out⟩, HO3.out, HS3.out, HG3.out⟩
      · go_wp2_with fail
        go_loopw [3] (fun vl wr => ∃ (l : List ByteArray), l.length ≤ 65 ∧ (∀ x ∈ l, x.size ≤ 4) ∧ vl ≠ .slice none 0 0 ∧ wr.ownsRow w.heap.size 9 1 vl l.length (svl l) ∧ (∃ a2 c2, vl = .slice a2 l.length c2) ∧ SrcAt wr g a len cap ∧ w.grownBy wr (some g)) (fun vl _ => 65 - slLen vl)
        case atStart => exact ⟨l, by omega, HSm.out, HV.out, HO3.out, by obtain ⟨a2, c2, h, _⟩ := own_sa HO3.out; exact ⟨a2, c2, h⟩, HS3.out, HG3.out⟩
        case round =>
          clear HO3 HS3 HG3 HV HSm hlb hkl
          obtain ⟨l, hll, hsm, hnn, hown, ⟨a2, c2, rfl⟩, hsrc, hgr⟩ := hrel
          have HSm : Hid (∀ x ∈ l, x.size ≤ 4) := hsm
          have HS : Hid (SrcAt wr g a len cap) := hsrc
          have HG : Hid (w.grownBy wr (some g)) := hgr
          have HO : Hid (wr.ownsRow w.heap.size 9 1 (.slice a2 l.length c2) l.length (svl l)) := hown
          have HV : Hid ((.slice a2 l.length c2 : Value) ≠ .slice none 0 0) := hnn
          obtain ⟨n, hn⟩ : ∃ n, l.length = n := ⟨_, rfl⟩
          have HLn : Hid (l.length = n) := hn
          rw [hn] at hll HO HV ⊢
          clear hsm hsrc hgr hown hnn hn
          go_wp2_with fail
          refine (HN.out 3 _ (by omega) (by omega) HS.out).mono ?_
          rintro e w4 ⟨v, rfl, hv0, hv1, h1, h2⟩
          obtain ⟨r, rfl⟩ := Int.eq_ofNat_of_zero_le hv0
          have HO4 : Hid (w4.ownsRow w.heap.size 9 1 (.slice a2 n c2) n (svl l)) := HO.out.kept h2 (Or.inr (by intro e; have := (HO.out.lt _ e).1; omega))
          have HS4 : Hid (SrcAt w4 g a len cap) := h1
          have HG4 : Hid (w.grownBy w4 (some g)) := grownBy_trans HG.out h2
          clear h1 h2 HS HG HO
          by_cases hc : n < 63 + r
          · have hc' : (n : Int) < 63 + (r : Int) := by omega
            have B5 : Below w4.heap.size w4 (w4.alloc (.cells #[.string ⟨#[120]⟩] 9)) := (Below.refl _ _).alloc (Nat.le_refl _) _
            have hO5 := own_below HO4.out B5
            have hx5 := lit_sa w4 ⟨#[120]⟩ 9
            have hS5 : SrcAt (w4.alloc (.cells #[.string ⟨#[120]⟩] 9)) g a len cap := HS4.out.below B5 HS4.out.room
            have hG5 : w.grownBy (w4.alloc (.cells #[.string ⟨#[120]⟩] 9)) (some g) := grownBy_below HG4.out (B5.mono HG4.out.size)
            have HX5 : Hid (_ ∧ _ ∧ _ ∧ _) := ⟨hO5, hx5, hS5, hG5⟩
            have hz5 : w.heap.size ≤ (w4.alloc (.cells #[.string ⟨#[120]⟩] 9)).heap.size := hG5.size
            have hl1 : n + 1 ≤ 1000000 := by omega
            clear HS4 HG4 HO4 B5 hO5 hx5 hS5 hG5
            go_wp2_with (first
              | (at_builtin; refine wpList_append_strs rfl _ _ rfl w.heap.size (.slice a2 n c2) n 1 l [⟨#[120]⟩] rfl HX5.out.1 w4.heap.size 0 1 rfl rfl HX5.out.2.1 hl1 hz5 ?_; intro v6 w6 hO6 hB6 hv6; obtain ⟨a6, c6, rfl, hl6, hc6, hm6, hsa6⟩ := own_sa hO6))
            have HO6 : Hid (w6.ownsRow w.heap.size 9 1 (.slice a6 (n + 1) c6) (n + 1) (svl (l ++ [⟨#[120]⟩]))) := hO6
            have HS6 : Hid (SrcAt w6 g a len cap) := HX5.out.2.2.1.below hB6 hgw
            have HG6 : Hid (w.grownBy w6 (some g)) := grownBy_below HX5.out.2.2.2 hB6
            have HV6 : Hid ((.slice a6 (n + 1) c6 : Value) ≠ .slice none 0 0) := hv6 HV.out
            have HSm6 : Hid (∀ y ∈ l ++ [⟨#[120]⟩], y.size ≤ 4) := Lvs.snoc HSm.out (by decide)
            have HLn6 : Hid ((l ++ [(⟨#[120]⟩ : ByteArray)]).length = n + 1) := by show _ = _; rw [List.length_append, HLn.out]; rfl
            clear hO6 hB6 hv6 HX5 HV HSm hsa6 hl6 hc6 hm6
            go_wp2
            go_roundw
            case rel => exact ⟨l ++ [⟨#[120]⟩], by rw [HLn6.out]; omega, HSm6.out, HV6.out, by rw [HLn6.out]; exact HO6.out, ⟨a6, c6, by rw [HLn6.out]⟩, HS6.out, HG6.out⟩
            case measure => simp [slLen]; omega
          · have hc' : ¬ (n : Int) < 63 + (r : Int) := by omega
            go_wp2
            go_ret
            exact ⟨_, l, rfl, HV.out, ⟨by have := HLn.out; omega, HSm.out⟩, by rw [HLn.out]; exact HO4.out, HS4.out, HG4.out⟩
set_option maxRecDepth 100000 in
theorem any5 (g len cap : Nat) (a : Option Addr) (w : World) (h : SrcAt w g a len cap) :
    Calls Tryd.prog 58 #[.pointer (some ⟨g, 0, none⟩)] w fun e w' => ∃ x : ByteArray, e = .returned (.string x) ∧ x.size ≤ 40 ∧ SrcAt w' g a len cap ∧ w.grownBy w' (some g) := by
  have HO1 : Hid _ := one_any g len cap a 10 w h (by omega) (by omega)
  have HN : Hid (∀ (most : Int) w1, 0 < most → most ≤ 1000 → SrcAt w1 g a len cap → Calls Tryd.prog 52 #[.pointer (some ⟨g, 0, none⟩), .int .i64 most] w1 fun e w' => ∃ v : Int, e = .returned (.int .i64 v) ∧ 0 ≤ v ∧ v < most ∧ SrcAt w' g a len cap ∧ w1.grownBy w' (some g)) := fun most w1 k1 k2 h1 => n_any g len cap a most w1 h1 k1 (by omega)
  have HY : Hid (∀ (m : Nat) w1, m ≤ 1000 → SrcAt w1 g a len cap → Calls Tryd.prog 85 #[.pointer (some ⟨g, 0, none⟩), .int .i64 (m : Int)] w1 fun e w' => ∃ x : ByteArray, e = .returned (.string x) ∧ x.size = m ∧ SrcAt w' g a len cap ∧ w1.grownBy w' (some g)) := fun m w1 k1 h1 => bytes_any g len cap m a w1 h1 (by omega)
  clear h
  go_enter Tryd.func58, Tryd.ntmps58
  go_wp2_with fail
  refine Calls.mono HO1.out ?_
  rintro e w1 ⟨bb, rfl, h1, h2⟩
  have H1 : Hid (SrcAt w1 g a len cap) := h1
  have H2 : Hid (w.grownBy w1 (some g)) := h2
  clear h1 h2 HO1
  cases bb
  · have hy := HY.out 1 w1 (by omega) H1.out
    have HY1 : Hid _ := hy
    clear hy
    go_wp2_with fail
    refine Calls.mono HY1.out ?_
    rintro e w2 ⟨x, rfl, hx, h1, h2⟩
    have H3 : Hid (SrcAt w2 g a len cap) := h1
    have H4 : Hid (w.grownBy w2 (some g)) := grownBy_trans H2.out h2
    have HL : Hid (Calls Tryd.prog 89 #[.string x] w2 fun e w' => e = .returned (.string (leafD x)) ∧ Below w2.heap.size w2 w') := specLeaf x w2 (by omega)
    have hs := leafD_size x
    generalize leafD x = y at *
    clear h1 h2 H1 H2 HY1 HY HN
    go_wp2_with (go_at_call 89; refine Calls.mono HL.out ?_; rintro e w3 ⟨rfl, hB3⟩)
    go_ret
    exact ⟨y, rfl, by omega, H3.out.below hB3 H3.out.room, grownBy_below H4.out (hB3.mono H4.out.size)⟩
  · go_wp2_with fail
    refine (HN.out 4 _ (by omega) (by omega) H1.out).mono ?_
    rintro e w2 ⟨v, rfl, hv0, hv1, h1, h2⟩
    obtain ⟨r, rfl⟩ := Int.eq_ofNat_of_zero_le hv0
    have H3 : Hid (SrcAt w2 g a len cap) := h1
    have H4 : Hid (w.grownBy w2 (some g)) := grownBy_trans H2.out h2
    have hy := HY.out (30 + r) w2 (by omega) H3.out
    rw [show ((30 + r : Nat) : Int) = 30 + (r : Int) by omega] at hy
    have HY1 : Hid _ := hy
    clear h1 h2 H1 H2 hy
    go_wp2_with (go_at_call 85; refine Calls.mono HY1.out ?_; rintro e w3 ⟨x, rfl, hx, h1, h2⟩)
    go_ret
    exact ⟨x, rfl, by omega, h1, grownBy_trans H4.out h2⟩
set_option maxRecDepth 100000 in
theorem drawTree (len cap : Nat) (a : Option Addr) (w : World) (hb : Bytes w a len) (hs : len ≤ 9223372036854775807) :
    Calls Tryd.prog 8 #[.slice a len cap] w fun e w' => ∃ v l, e = .returned v ∧ v ≠ .slice none 0 0 ∧ Lvs l ∧ w'.ownsRow w.heap.size 9 1 v l.length (svl l) ∧ Below w.heap.size w w' := by
  have HS : Hid _ := source_any len cap a w hb hs
  clear hb
  go_enter Tryd.func8, Tryd.ntmps8
  go_wp2_with fail
  refine Calls.mono HS.out ?_
  rintro e w1 ⟨g, rfl, hg, h1, h2⟩
  have H2 : Hid (Below w.heap.size w w1) := h2
  have HL : Hid _ := leaves_any g len cap a w1 h1
  clear h1 h2 HS
  go_wp2_with fail
  refine Calls.mono HL.out ?_
  rintro e w2 ⟨v, l, rfl, hv, hl, hO, h3, h4⟩
  have HO : Hid (w2.ownsRow w.heap.size 9 1 v l.length (svl l)) := own_mono hO H2.out.size
  have HV : Hid (v ≠ .slice none 0 0) := hv
  have HLv : Hid (Lvs l) := hl
  have HB : Hid (Below w.heap.size w w2) := Below.by H2.out h4 H2.out.size hg
  clear h3 h4 hO hv hl HL H2
  go_wp2
  go_ret
  exact ⟨v, l, rfl, HV.out, HLv.out, HO.out, HB.out⟩
end Go.Proofs.YtdfglpbappeoaabDoor
