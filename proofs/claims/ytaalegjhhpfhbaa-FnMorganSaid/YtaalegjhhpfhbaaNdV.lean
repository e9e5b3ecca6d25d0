/- What an instruction takes, what it makes of the nodes that it takes. -/
import Derived.Test.YtaalegjhhpfhbaaNdM
import Derived.Test.YtaalegjhhpfhbaaNdO
import Derived.Test.YtaalegjhhpfhbaaTy
import Derived.Deep.RegionHeld3
namespace Go.Proofs.Ytaalegjhhpfhbaa
open Go.RowKit
set_option linter.unusedVariables false

theorem ndV_form (y : Nd) : ∃ ty vy, ndV y = .iface ty vy := by cases y <;> exact ⟨_, _, rfl⟩
theorem ndV_cells (y : Nd) : (ndV y).cells = #[ndV y] := by cases y <;> rfl
set_option maxRecDepth 100000 in
theorem Try.bldNot (y : Nd) : ∀ w, (Instr.build 178 #[(0, ndV y)]).run Try.prog w = .ok (.agg #[ndV y]) w := by
  intro w
  cases y <;> kernel_rfl
set_option maxRecDepth 100000 in
theorem Try.bldPar (op : Int) (y z : Nd) : ∀ w, (Instr.build 180 #[(0, .int .i64 op), (1, ndV y), (2, ndV z)]).run Try.prog w = .ok (.agg #[.int .i64 op, ndV y, ndV z]) w := by
  intro w
  cases y <;> cases z <;> kernel_rfl
def tkI (x0 : Int) : Int := if x0 = 3 then 1 else if x0 = 4 then 2 else if x0 = 5 then 2 else 0
theorem tk_cases (x0 : Int) : (x0 = 3 ∧ tkI x0 = 1) ∨ (x0 = 4 ∧ tkI x0 = 2) ∨ (x0 = 5 ∧ tkI x0 = 2) ∨ (¬ x0 = 3 ∧ ¬ x0 = 4 ∧ ¬ x0 = 5 ∧ tkI x0 = 0) := by
  unfold tkI
  by_cases h3 : x0 = 3
  · subst h3; exact Or.inl ⟨rfl, rfl⟩
  · by_cases h4 : x0 = 4
    · subst h4; exact Or.inr (Or.inl ⟨rfl, rfl⟩)
    · by_cases h5 : x0 = 5
      · subst h5; exact Or.inr (Or.inr (Or.inl ⟨rfl, rfl⟩))
      · exact Or.inr (Or.inr (Or.inr ⟨h3, h4, h5, by rw [if_neg h3, if_neg h4, if_neg h5]⟩))
set_option maxRecDepth 100000 in
set_option maxHeartbeats 4000000 in
theorem implTaken (x0 : Int) (w : World) :
    Calls Try.prog 100 #[.int .i64 x0] w fun r w' => r = .returned (.int .i64 (tkI x0)) ∧ w = w' := by
  have HS0 : Hid (Sta [] w [] [] w) := Sta.start w
  go_enter Try.func100, Try.ntmps100
  rcases tk_cases x0 with ⟨h, hf⟩ | ⟨h, hf⟩ | ⟨h, hf⟩ | ⟨h4, h5, h, hf⟩
  · as_aux_lemma =>
    have HF := hidP hf
    clear hf
    subst h
    go_wp2_with fail
    go_ret
    exact ⟨by rw [HF.out]; rfl, rfl⟩
  · as_aux_lemma =>
    have HF := hidP hf
    clear hf
    subst h
    go_wp2_with fail
    go_ret
    exact ⟨by rw [HF.out]; rfl, rfl⟩
  · as_aux_lemma =>
    have HF := hidP hf
    clear hf
    subst h
    go_wp2_with fail
    go_ret
    exact ⟨by rw [HF.out]; rfl, rfl⟩
  · as_aux_lemma =>
    have HF := hidP hf
    clear hf
    have d3a : decide (x0 = 3) = false := decide_eq_false (by omega)
    have d4a : decide (x0 = 4) = false := decide_eq_false (by omega)
    have d5a : decide (x0 = 5) = false := decide_eq_false (by omega)
    have d3b : (x0 == 3) = false := beq_eq_false_iff_ne.2 (by omega)
    have d4b : (x0 == 4) = false := beq_eq_false_iff_ne.2 (by omega)
    have d5b : (x0 == 5) = false := beq_eq_false_iff_ne.2 (by omega)
    have d3c : ¬ x0 = 3 := by omega
    have d4c : ¬ x0 = 4 := by omega
    have d5c : ¬ x0 = 5 := by omega
    go_wp2_with fail
    go_ret
    exact ⟨by rw [HF.out]; rfl, rfl⟩
set_option maxRecDepth 100000 in
set_option maxHeartbeats 4000000 in
theorem overIs (x1 x2 : ByteArray) (V : Value) (w : World) :
    Calls Try.prog 102 #[.agg #[.int .i64 1, .string x1, .string x2], V] w fun r w' => r = .returned (ndV (.is x1 x2)) ∧ Below w.heap.size w w' := by
  have HS0 : Hid (Sta [] w [] [] w) := Sta.start w
  go_enter Try.func102, Try.ntmps102
  go_wp2_with (first
    | ((with_reducible refine wpList_boxV (w := w) (by with_unfolding_all rfl) 41 (.tmp 0) (by with_unfolding_all rfl) [.int .i64 1, .string x1, .string x2] (by with_unfolding_all rfl) ?_); intro w1 hA1 hB1 hS1; clear hS1; have HS1 := Sta.new HS0 hA1 hB1 (by simp); clear hA1 hB1; have cHS1_0_0 : w1.cell? ⟨w.heap.size, 0, none⟩ = some (.int .i64 1) := Sta.c (i := 0) HS1 rfl rfl; have cHS1_0_1 : w1.cell? ⟨w.heap.size, 1, none⟩ = some (.string x1) := Sta.c (i := 0) HS1 rfl rfl; have cHS1_0_2 : w1.cell? ⟨w.heap.size, 2, none⟩ = some (.string x2) := Sta.c (i := 0) HS1 rfl rfl))
  go_ret
  exact ⟨rfl, Sta.fin HS1⟩
set_option maxRecDepth 100000 in
set_option maxHeartbeats 4000000 in
theorem overHas (x1 x2 : ByteArray) (V : Value) (w : World) :
    Calls Try.prog 102 #[.agg #[.int .i64 2, .string x1, .string x2], V] w fun r w' => r = .returned (ndV (.has x1)) ∧ Below w.heap.size w w' := by
  have HS0 : Hid (Sta [] w [] [] w) := Sta.start w
  go_enter Try.func102, Try.ntmps102
  go_wp2_with (first
    | ((with_reducible refine wpList_boxV (w := w) (by with_unfolding_all rfl) 41 (.tmp 0) (by with_unfolding_all rfl) [.int .i64 2, .string x1, .string x2] (by with_unfolding_all rfl) ?_); intro w1 hA1 hB1 hS1; clear hS1; have HS1 := Sta.new HS0 hA1 hB1 (by simp); clear hA1 hB1; have cHS1_0_0 : w1.cell? ⟨w.heap.size, 0, none⟩ = some (.int .i64 2) := Sta.c (i := 0) HS1 rfl rfl; have cHS1_0_1 : w1.cell? ⟨w.heap.size, 1, none⟩ = some (.string x1) := Sta.c (i := 0) HS1 rfl rfl))
  go_ret
  exact ⟨rfl, Sta.fin HS1⟩
set_option maxRecDepth 100000 in
set_option maxHeartbeats 4000000 in
theorem overNot (x1 x2 : ByteArray) (g p n c : Nat) (y : Nd) (w : World) (h : w.cell? ⟨g, p, none⟩ = some (ndV y)) (hn : 1 ≤ n) :
    Calls Try.prog 102 #[.agg #[.int .i64 3, .string x1, .string x2], .slice (some ⟨g, p, none⟩) n c] w fun r w' => r = .returned (ndV (.neg y)) ∧ Below w.heap.size w w' := by
  have l00 : (0 : Int) < (n : Int) := by omega
  have l00n : 0 < n := by omega
  obtain ⟨ty, vy, ey⟩ := ndV_form y
  rw [ey] at h
  have HE := hidP ey
  clear ey
  have HS0 : Hid (Sta [] w [] [⟨fun k => k < w.heap.size, fun w' => True ∧ w'.cell? ⟨g, p, none⟩ = some (.iface ty vy)⟩] w) := Sta.arg (fun w' => True ∧ w'.cell? ⟨g, p, none⟩ = some (.iface ty vy)) (fun w' hb => ⟨trivial, (hb.cell (p := ⟨g, p, none⟩) (cellLt h)).trans h⟩)
  clear h
  go_enter Try.func102, Try.ntmps102
  go_wp2_with (first
    | ((with_reducible refine wpList_boxV (w := w) (by with_unfolding_all rfl) 41 (.tmp 0) (by with_unfolding_all rfl) [.int .i64 3, .string x1, .string x2] (by with_unfolding_all rfl) ?_); intro w1 hA1 hB1 hS1; clear hS1; have HS1 := Sta.new HS0 hA1 hB1 (by simp); clear hA1 hB1; have cHS1_0_0 : w1.cell? ⟨w.heap.size, 0, none⟩ = some (.int .i64 3) := Sta.c (i := 0) HS1 rfl rfl; have tcHS1_0_0 : w1.cell? ⟨g, p, none⟩ = some (.iface ty vy) := (Sta.t (i := 0) HS1 rfl :).2))
  go_ret
  exact ⟨by show _ = Ending.returned (.iface _ (.agg #[ndV y])); rw [HE.out]; rfl, Sta.fin HS1⟩
set_option maxRecDepth 100000 in
set_option maxHeartbeats 4000000 in
theorem overPar4 (x1 x2 : ByteArray) (g p n c : Nat) (y z : Nd) (w : World) (h : w.cell? ⟨g, p, none⟩ = some (ndV y)) (h2 : w.cell? ⟨g, p + 1, none⟩ = some (ndV z)) (hn : 2 ≤ n) :
    Calls Try.prog 102 #[.agg #[.int .i64 4, .string x1, .string x2], .slice (some ⟨g, p, none⟩) n c] w fun r w' => r = .returned (ndV (.par 4 y z)) ∧ Below w.heap.size w w' := by
  have l00 : (0 : Int) < (n : Int) := by omega
  have l01 : (1 : Int) < (n : Int) := by omega
  have l00n : 0 < n := by omega
  have l01n : 1 < n := by omega
  obtain ⟨ty, vy, ey⟩ := ndV_form y
  rw [ey] at h
  have HE := hidP ey
  obtain ⟨tz, vz, ez⟩ := ndV_form z
  rw [ez] at h2
  have HE2 := hidP ez
  clear ey ez
  have HS0 : Hid (Sta [] w [] [⟨fun k => k < w.heap.size, fun w' => True ∧ w'.cell? ⟨g, p, none⟩ = some (.iface ty vy) ∧ w'.cell? ⟨g, p + 1, none⟩ = some (.iface tz vz)⟩] w) := Sta.arg (fun w' => True ∧ w'.cell? ⟨g, p, none⟩ = some (.iface ty vy) ∧ w'.cell? ⟨g, p + 1, none⟩ = some (.iface tz vz)) (fun w' hb => ⟨trivial, (hb.cell (p := ⟨g, p, none⟩) (cellLt h)).trans h, (hb.cell (p := ⟨g, p + 1, none⟩) (cellLt h2)).trans h2⟩)
  clear h h2
  go_enter Try.func102, Try.ntmps102
  go_wp2_with (first
    | ((with_reducible refine wpList_boxV (w := w) (by with_unfolding_all rfl) 41 (.tmp 0) (by with_unfolding_all rfl) [.int .i64 4, .string x1, .string x2] (by with_unfolding_all rfl) ?_); intro w1 hA1 hB1 hS1; clear hS1; have HS1 := Sta.new HS0 hA1 hB1 (by simp); clear hA1 hB1; have cHS1_0_0 : w1.cell? ⟨w.heap.size, 0, none⟩ = some (.int .i64 4) := Sta.c (i := 0) HS1 rfl rfl))
  have HS2 := Sta.drew HS1
  clear cHS1_0_0
  go_region_held3 (fun w' => w'.cell? ⟨w.heap.size, 0, none⟩ = some (.int .i64 4) ∧ w'.cell? ⟨g, p, none⟩ = some (.iface ty vy) ∧ w'.cell? ⟨g, p + 1, none⟩ = some (.iface tz vz) ∧ Hid (Sta [] w [(w.heap.size, [.int .i64 4, .string x1, .string x2])] [⟨fun k => k < w.heap.size, fun w' => True ∧ w'.cell? ⟨g, p, none⟩ = some (.iface ty vy) ∧ w'.cell? ⟨g, p + 1, none⟩ = some (.iface tz vz)⟩] w'))
    (first | exact ⟨Sta.c (i := 0) (HS2) rfl rfl, (Sta.t (i := 0) (HS2) rfl :).2.1, (Sta.t (i := 0) (HS2) rfl :).2.2, (HS2)⟩)
    (fail)
  all_goals
    have HS3 := HS2
    go_wp2_with fail
    go_ret
    exact ⟨by show _ = Ending.returned (.iface _ (.agg #[_, ndV y, ndV z])); rw [HE.out, HE2.out]; rfl, Sta.fin HS3⟩
set_option maxRecDepth 100000 in
set_option maxHeartbeats 4000000 in
theorem overPar5 (x1 x2 : ByteArray) (g p n c : Nat) (y z : Nd) (w : World) (h : w.cell? ⟨g, p, none⟩ = some (ndV y)) (h2 : w.cell? ⟨g, p + 1, none⟩ = some (ndV z)) (hn : 2 ≤ n) :
    Calls Try.prog 102 #[.agg #[.int .i64 5, .string x1, .string x2], .slice (some ⟨g, p, none⟩) n c] w fun r w' => r = .returned (ndV (.par 5 y z)) ∧ Below w.heap.size w w' := by
  have l00 : (0 : Int) < (n : Int) := by omega
  have l01 : (1 : Int) < (n : Int) := by omega
  have l00n : 0 < n := by omega
  have l01n : 1 < n := by omega
  obtain ⟨ty, vy, ey⟩ := ndV_form y
  rw [ey] at h
  have HE := hidP ey
  obtain ⟨tz, vz, ez⟩ := ndV_form z
  rw [ez] at h2
  have HE2 := hidP ez
  clear ey ez
  have HS0 : Hid (Sta [] w [] [⟨fun k => k < w.heap.size, fun w' => True ∧ w'.cell? ⟨g, p, none⟩ = some (.iface ty vy) ∧ w'.cell? ⟨g, p + 1, none⟩ = some (.iface tz vz)⟩] w) := Sta.arg (fun w' => True ∧ w'.cell? ⟨g, p, none⟩ = some (.iface ty vy) ∧ w'.cell? ⟨g, p + 1, none⟩ = some (.iface tz vz)) (fun w' hb => ⟨trivial, (hb.cell (p := ⟨g, p, none⟩) (cellLt h)).trans h, (hb.cell (p := ⟨g, p + 1, none⟩) (cellLt h2)).trans h2⟩)
  clear h h2
  go_enter Try.func102, Try.ntmps102
  go_wp2_with (first
    | ((with_reducible refine wpList_boxV (w := w) (by with_unfolding_all rfl) 41 (.tmp 0) (by with_unfolding_all rfl) [.int .i64 5, .string x1, .string x2] (by with_unfolding_all rfl) ?_); intro w1 hA1 hB1 hS1; clear hS1; have HS1 := Sta.new HS0 hA1 hB1 (by simp); clear hA1 hB1; have cHS1_0_0 : w1.cell? ⟨w.heap.size, 0, none⟩ = some (.int .i64 5) := Sta.c (i := 0) HS1 rfl rfl))
  have HS2 := Sta.drew HS1
  clear cHS1_0_0
  go_region_held3 (fun w' => w'.cell? ⟨w.heap.size, 0, none⟩ = some (.int .i64 5) ∧ w'.cell? ⟨g, p, none⟩ = some (.iface ty vy) ∧ w'.cell? ⟨g, p + 1, none⟩ = some (.iface tz vz) ∧ Hid (Sta [] w [(w.heap.size, [.int .i64 5, .string x1, .string x2])] [⟨fun k => k < w.heap.size, fun w' => True ∧ w'.cell? ⟨g, p, none⟩ = some (.iface ty vy) ∧ w'.cell? ⟨g, p + 1, none⟩ = some (.iface tz vz)⟩] w'))
    (first | exact ⟨Sta.c (i := 0) (HS2) rfl rfl, (Sta.t (i := 0) (HS2) rfl :).2.1, (Sta.t (i := 0) (HS2) rfl :).2.2, (HS2)⟩)
    (fail)
  all_goals
    have HS3 := HS2
    go_wp2_with fail
    go_ret
    exact ⟨by show _ = Ending.returned (.iface _ (.agg #[_, ndV y, ndV z])); rw [HE.out, HE2.out]; rfl, Sta.fin HS3⟩
set_option maxRecDepth 100000 in
theorem Try.sliceLoN (ad : Option Addr) (n c k : Nat) (h : k ≤ c) (hnil : ad = none → c = 0) (hsp : ∀ x, ad = some x → x.spot = none) : ∀ w, (Instr.slice 139 (.slice ad n c) none (some (.int .i64 (k : Int))) none).run Try.prog w = .ok (.slice ad k c) w := by
  intro w
  have h1 : (k : Int) ≤ c := by omega
  rcases ad with _ | ⟨b, o, s⟩
  · obtain rfl := hnil rfl
    obtain rfl : k = 0 := by omega
    simp [Instr.slice, run_underlying Try.underlying139, Instr.sliceBounds, run_sliceBound]
  · have hs : s = none := hsp _ rfl
    subst hs
    simp [Instr.slice, run_underlying Try.underlying139, Instr.sliceBounds, run_sliceBound, h1]
    intro _
    exact Addr.add_zero' _
set_option maxRecDepth 100000 in
theorem Try.sliceHiN (g n c k : Nat) (h : k ≤ n) (hk : k < c) : ∀ w, (Instr.slice 139 (.slice (some ⟨g, 0, none⟩) n c) (some (.int .i64 (k : Int))) none none).run Try.prog w = .ok (.slice (some ⟨g, k, none⟩) (n - k) (c - k)) w := by
  intro w
  have h1 : (k : Int) ≤ n := by omega
  simp [Instr.slice, run_underlying Try.underlying139, Instr.sliceBounds, run_sliceBound, h1, show ¬ c = k by omega, Addr.add_lit]
set_option maxRecDepth 100000 in
theorem Try.sliceHiE (ad : Option Addr) (n c k : Nat) (h : k ≤ n) (hc : n ≤ c) (hnil : ad = none → c = 0) (hsp : ∀ x, ad = some x → x.spot = none) : ∃ V, ∀ w, (Instr.slice 139 (.slice ad n c) (some (.int .i64 (k : Int))) none none).run Try.prog w = .ok V w := by
  have h1 : (k : Int) ≤ n := by omega
  rcases ad with _ | ⟨b, o, s⟩
  · obtain rfl := hnil rfl
    obtain rfl : n = 0 := by omega
    obtain rfl : k = 0 := by omega
    refine ⟨.slice none 0 0, fun w => ?_⟩
    simp [Instr.slice, run_underlying Try.underlying139, Instr.sliceBounds, run_sliceBound]
  · have hs : s = none := hsp _ rfl
    subst hs
    by_cases hkc : k < c
    · exact ⟨.slice (some ⟨b, o + k, none⟩) (n - k) (c - k), fun w => by simp [Instr.slice, run_underlying Try.underlying139, Instr.sliceBounds, run_sliceBound, h1, show ¬ c = k by omega, Addr.add_lit]⟩
    · obtain rfl : k = c := by omega
      obtain rfl : n = k := by omega
      exact ⟨.slice (some ⟨b, o, none⟩) (n - n) (n - n), fun w => by simp [Instr.slice, run_underlying Try.underlying139, Instr.sliceBounds, run_sliceBound]⟩
theorem NdO.top {w : World} {base g n c p : Nat} {r : List Nd} {y : Nd} (h : NdO w base (.slice (some ⟨g, 0, none⟩) n c) (r ++ [y])) (hp : r.length = p) : w.cell? ⟨g, p, none⟩ = some (ndV y) := by
  subst hp
  have := NdO.cell h r.length (by simp)
  rw [List.getElem_append_right (Nat.le_refl _)] at this
  simpa using this
theorem NdO.top2 {w : World} {base g n c p : Nat} {r : List Nd} {y z : Nd} (h : NdO w base (.slice (some ⟨g, 0, none⟩) n c) (r ++ [y, z])) (hp : r.length = p) : w.cell? ⟨g, p, none⟩ = some (ndV y) ∧ w.cell? ⟨g, p + 1, none⟩ = some (ndV z) := by
  subst hp
  have h1 := NdO.cell h r.length (by simp)
  have h2 := NdO.cell h (r.length + 1) (by simp)
  rw [List.getElem_append_right (Nat.le_refl _)] at h1
  rw [List.getElem_append_right (by omega)] at h2
  refine ⟨by simpa using h1, ?_⟩
  simpa using h2
end Go.Proofs.Ytaalegjhhpfhbaa
