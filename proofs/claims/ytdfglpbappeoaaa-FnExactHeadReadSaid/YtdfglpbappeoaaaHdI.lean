/- The program's reader of a head. -/
import Derived.Test.YtdfglpbappeoaaaTdI
import Derived.Test.YtdfglpbappeoaaaHdR
import Derived.Test.YtdfglpbappeoaaaTy
import Derived.Deep.RegionHeld3
namespace Go.Proofs.Ytdfglpbappeoaaa
open Go.RowKit
set_option linter.unusedVariables false

def headO (t : ByteArray) (p : Nat) : Option (Int × ByteArray × Int × Nat) := match numO t p with
  | none => none
  | some (s, b1) => match bytesO t b1 32 with
    | none => none
    | some (r, b2) => match numO t b2 with
      | none => none
      | some (x, b3) => if headB s r x then some (s, r, x, b3) else none
theorem headO_some {t : ByteArray} {p q : Nat} {s x : Int} {r : ByteArray} (h : headO t p = some (s, r, x, q)) : ∃ b1 b2, numO t p = some (s, b1) ∧ bytesO t b1 32 = some (r, b2) ∧ numO t b2 = some (x, q) ∧ headB s r x = true := by
  unfold headO at h
  cases h1 : numO t p with
  | none => rw [h1] at h; cases h
  | some y1 =>
  obtain ⟨s', b1⟩ := y1
  rw [h1] at h
  simp only at h
  cases h2 : bytesO t b1 32 with
  | none => rw [h2] at h; cases h
  | some y2 =>
  obtain ⟨r', b2⟩ := y2
  rw [h2] at h
  simp only at h
  cases h3 : numO t b2 with
  | none => rw [h3] at h; cases h
  | some y3 =>
  obtain ⟨x', b3⟩ := y3
  rw [h3] at h
  simp only at h
  split at h
  · injection h with h
    injection h with e1 h
    injection h with e2 h
    injection h with e3 e4
    subst e1 e2 e3 e4
    exact ⟨b1, b2, rfl, h2, h3, by assumption⟩
  · cases h
theorem headO_of {t : ByteArray} {p b1 b2 q : Nat} {s x : Int} {r : ByteArray} (h1 : numO t p = some (s, b1)) (h2 : bytesO t b1 32 = some (r, b2)) (h3 : numO t b2 = some (x, q)) (h4 : headB s r x = true) : headO t p = some (s, r, x, q) := by
  unfold headO
  rw [h1]
  simp only
  rw [h2]
  simp only
  rw [h3]
  simp only
  rw [if_pos h4]
theorem bytesO_size {t x : ByteArray} {p b : Nat} (h : bytesO t p 32 = some (x, b)) : x.size ≤ 32 ∧ b ≤ t.size := by
  obtain ⟨h1, h2, h3⟩ := bytesO_yes h
  refine ⟨?_, h3⟩
  rw [h1, ByteArray.size_extract]
  omega
set_option maxRecDepth 100000 in
set_option maxHeartbeats 4000000 in
theorem hdN0 (g p : Nat) (t : ByteArray) (w : World) (hs : t.size ≤ maxLen) (hl1 : p ≤ t.size) (hn1 : numO t p = none) (h : RowV w g (cuv t p)) :
    Calls Try.prog 75 #[.pointer (some ⟨g, 0, none⟩)] w fun e w' => e = .panicked [{ v := faultV, recovered := false }] ∧ Only g w w' := by
  have hg : g < w.heap.size := h.lt (cuv_ne _ _)
  have hC1 : ∀ w0, (RowV w0 g [.string t, .int .i64 (p : Int)]) → Calls Try.prog 111 #[.pointer (some ⟨g, 0, none⟩)] w0 fun r w' => r = .panicked [{ v := faultV, recovered := false }] ∧ Only g w0 w' := fun w0 n0 => numNo g p t w0 hs hn1 hl1 n0
  have HS0 : Hid (Sta [g] w [(g, [.string t, .int .i64 (p : Int)])] [⟨fun k => k < w.heap.size ∧ k ≠ g, fun _ => True⟩] w) := Sta.recv h (cuv_ne _ _) (fun _ => True) (fun _ _ => trivial)
  clear h hs hl1 hn1
  go_enter Try.func75, Try.ntmps75
  go_wp2_with (first
    | ((with_reducible refine wpList_allocV (w := w) (by with_unfolding_all rfl) 35 (by with_unfolding_all rfl) [.int .i64 0, .string ⟨#[]⟩, .int .i64 0] Try.zT_implHead ?_); intro w1 hA1 hB1 hS1; clear hS1; have HS1 := Sta.new HS0 hA1 hB1 (by simp); clear hA1 hB1))
  have HS2 := Sta.drew HS1
  refine wp_region_held_drew (S := fun w' => True) (by kernel_rfl) trivial (fun hHeld => ?_)
  generalize w1.drew = w2 at *
  refine wpAnyH_take (i := 0) (oi := ⟨_, _, _, _, _, _⟩) (v := .pointer (some ⟨g, 0, none⟩)) rfl (by kernel_rfl) (by kernel_rfl) (by kernel_rfl) (fun _ _ _ h => h) (Or.inl ⟨wanted_free rfl, fun w' hSw => ?_⟩) hHeld ?_
  · go_simp
  try simp only [Act.put, List.setIfInBounds_toArray, List.set_cons_zero, List.set_cons_succ]
  refine wpAnyH_take (i := 1) (oi := ⟨_, _, _, _, _, _⟩) (v := .pointer (some ⟨g, 0, none⟩)) rfl (by kernel_rfl) (by kernel_rfl) (by kernel_rfl) (fun _ _ _ h => h) (Or.inl ⟨wanted_free rfl, fun w' hSw => ?_⟩) hHeld ?_
  · go_simp
  try simp only [Act.put, List.setIfInBounds_toArray, List.set_cons_zero, List.set_cons_succ]
  refine wpAnyH_take (i := 2) (oi := ⟨_, _, _, _, _, _⟩) (v := .pointer (some ⟨g, 0, none⟩)) rfl (by kernel_rfl) (by kernel_rfl) (by kernel_rfl) (fun _ _ _ h => h) (Or.inl ⟨wanted_free rfl, fun w' hSw => ?_⟩) hHeld ?_
  · go_simp
  try simp only [Act.put, List.setIfInBounds_toArray, List.set_cons_zero, List.set_cons_succ]
  refine wpAnyH_take (i := 4) (oi := ⟨_, _, _, _, _, _⟩) (v := .pointer (some ⟨g, 0, none⟩)) rfl (by kernel_rfl) (by kernel_rfl) (by kernel_rfl) (fun _ _ _ h => h) (Or.inl ⟨wanted_free rfl, fun w' hSw => ?_⟩) hHeld ?_
  · go_simp
  try simp only [Act.put, List.setIfInBounds_toArray, List.set_cons_zero, List.set_cons_succ]
  refine wpAnyH_take (i := 5) (oi := ⟨_, _, _, _, _, _⟩) (v := .pointer (some ⟨g, 0, none⟩)) rfl (by kernel_rfl) (by kernel_rfl) (by kernel_rfl) (fun _ _ _ h => h) (Or.inl ⟨wanted_free rfl, fun w' hSw => ?_⟩) hHeld ?_
  · go_simp
  try simp only [Act.put, List.setIfInBounds_toArray, List.set_cons_zero, List.set_cons_succ]
  refine wpAnyH_take (i := 6) (oi := ⟨_, _, _, _, _, _⟩) (v := .pointer (some ⟨g, 0, none⟩)) rfl (by kernel_rfl) (by kernel_rfl) (by kernel_rfl) (fun _ _ _ h => h) (Or.inl ⟨wanted_free rfl, fun w' hSw => ?_⟩) hHeld ?_
  · go_simp
  try simp only [Act.put, List.setIfInBounds_toArray, List.set_cons_zero, List.set_cons_succ]
  refine wpAnyH_take (i := 8) (oi := ⟨_, _, _, _, _, _⟩) (v := .pointer (some ⟨g, 0, none⟩)) rfl (by kernel_rfl) (by kernel_rfl) (by kernel_rfl) (fun _ _ _ h => h) (Or.inl ⟨wanted_free rfl, fun w' hSw => ?_⟩) hHeld ?_
  · go_simp
  try simp only [Act.put, List.setIfInBounds_toArray, List.set_cons_zero, List.set_cons_succ]
  refine wpAnyH_take (i := 9) (oi := ⟨_, _, _, _, _, _⟩) (v := .pointer (some ⟨g, 0, none⟩)) rfl (by kernel_rfl) (by kernel_rfl) (by kernel_rfl) (fun _ _ _ h => h) (Or.inl ⟨wanted_free rfl, fun w' hSw => ?_⟩) hHeld ?_
  · go_simp
  try simp only [Act.put, List.setIfInBounds_toArray, List.set_cons_zero, List.set_cons_succ]
  refine wpAnyH_take (i := 10) (oi := ⟨_, _, _, _, _, _⟩) (v := .pointer (some ⟨g, 0, none⟩)) rfl (by kernel_rfl) (by kernel_rfl) (by kernel_rfl) (fun _ _ _ h => h) (Or.inl ⟨wanted_free rfl, fun w' hSw => ?_⟩) hHeld ?_
  · go_simp
  try simp only [Act.put, List.setIfInBounds_toArray, List.set_cons_zero, List.set_cons_succ]
  refine wpAnyH_ready (rs := [3, 13]) (by kernel_rfl) (by simp) (AllReadyH.cons (o := ⟨_, _, _, _, _, _⟩) rfl (fun K hK => ?_) (AllReadyH.cons (o := ⟨_, _, _, _, _, _⟩) rfl (fun K hK => ?_) AllReadyH.nil))
  · as_aux_lemma =>
    rewrite [if_pos (wanted_free rfl)]
    go_simp
    go_wp2_with fail
    have n3_0 : RowV w2 g [.string t, .int .i64 (p : Int)] := (Sta.r (i := 1) HS2 rfl :)
    refine (hC1 w2 n3_0).mono ?_
    rintro r w3 ⟨rfl, hO3⟩
    exact ⟨rfl, rfl, (Sta.only HS2 hg).trans hO3⟩
  · as_aux_lemma =>
    rewrite [if_pos (wanted_free rfl)]
    with_reducible refine wp_allocV 35 (by with_unfolding_all rfl) [.int .i64 0, .string ⟨#[]⟩, .int .i64 0] Try.zT_implHead ?_
    intro w4 hA4 hB4
    have HS4 := Sta.new HS2 hA4 hB4 (by simp)
    clear hA4 hB4
    refine hK.out _ _ trivial (fun hHeld => ?_)
    clear hK K
    try simp only [Act.put, List.setIfInBounds_toArray, List.set_cons_zero, List.set_cons_succ]
    refine wpAnyH_ready (rs := [3]) (by kernel_rfl) (by simp) (AllReadyH.cons (o := ⟨_, _, _, _, _, _⟩) rfl (fun K hK => ?_) AllReadyH.nil)
    rewrite [if_pos (wanted_free rfl)]
    go_simp
    go_wp2_with fail
    have n5_0 : RowV w4 g [.string t, .int .i64 (p : Int)] := (Sta.r (i := 2) HS4 rfl :)
    refine (hC1 w4 n5_0).mono ?_
    rintro r w5 ⟨rfl, hO5⟩
    exact ⟨rfl, rfl, (Sta.only HS4 hg).trans hO5⟩
set_option maxRecDepth 100000 in
set_option maxHeartbeats 4000000 in
theorem hdN1 (g p b1 : Nat) (t : ByteArray) (s : Int) (w : World) (hs : t.size ≤ maxLen) (hl1 : p ≤ t.size) (hn1 : numO t p = some (s, b1)) (hl2 : b1 ≤ t.size) (hn2 : bytesO t b1 32 = none) (h : RowV w g (cuv t p)) :
    Calls Try.prog 75 #[.pointer (some ⟨g, 0, none⟩)] w fun e w' => e = .panicked [{ v := faultV, recovered := false }] ∧ Only g w w' := by
  have hg : g < w.heap.size := h.lt (cuv_ne _ _)
  have hC1 : ∀ w0, (RowV w0 g [.string t, .int .i64 (p : Int)]) → Calls Try.prog 111 #[.pointer (some ⟨g, 0, none⟩)] w0 fun r w' => r = .returned (.int .i64 s) ∧ RowV w' g [.string t, .int .i64 (b1 : Int)] ∧ Only g w0 w' := fun w0 n0 => numYes g p b1 t s w0 hs ⟨hn1, hl1⟩ n0
  have hC2 : ∀ w0, (RowV w0 g [.string t, .int .i64 (b1 : Int)]) → Calls Try.prog 123 #[.pointer (some ⟨g, 0, none⟩), .int .i64 32] w0 fun r w' => r = .panicked [{ v := faultV, recovered := false }] ∧ Only g w0 w' := fun w0 n0 => bytesNo g b1 32 t w0 hs (by omega) hl2 (bytesO_no hn2) n0
  have HS0 : Hid (Sta [g] w [(g, [.string t, .int .i64 (p : Int)])] [⟨fun k => k < w.heap.size ∧ k ≠ g, fun _ => True⟩] w) := Sta.recv h (cuv_ne _ _) (fun _ => True) (fun _ _ => trivial)
  clear h hs hl1 hn1 hl2 hn2
  go_enter Try.func75, Try.ntmps75
  go_wp2_with (first
    | ((with_reducible refine wpList_allocV (w := w) (by with_unfolding_all rfl) 35 (by with_unfolding_all rfl) [.int .i64 0, .string ⟨#[]⟩, .int .i64 0] Try.zT_implHead ?_); intro w1 hA1 hB1 hS1; clear hS1; have HS1 := Sta.new HS0 hA1 hB1 (by simp); clear hA1 hB1))
  have HS2 := Sta.drew HS1
  refine wp_region_held_drew (S := fun w' => True) (by kernel_rfl) trivial (fun hHeld => ?_)
  generalize w1.drew = w2 at *
  refine wpAnyH_take (i := 0) (oi := ⟨_, _, _, _, _, _⟩) (v := .pointer (some ⟨g, 0, none⟩)) rfl (by kernel_rfl) (by kernel_rfl) (by kernel_rfl) (fun _ _ _ h => h) (Or.inl ⟨wanted_free rfl, fun w' hSw => ?_⟩) hHeld ?_
  · go_simp
  try simp only [Act.put, List.setIfInBounds_toArray, List.set_cons_zero, List.set_cons_succ]
  refine wpAnyH_take (i := 1) (oi := ⟨_, _, _, _, _, _⟩) (v := .pointer (some ⟨g, 0, none⟩)) rfl (by kernel_rfl) (by kernel_rfl) (by kernel_rfl) (fun _ _ _ h => h) (Or.inl ⟨wanted_free rfl, fun w' hSw => ?_⟩) hHeld ?_
  · go_simp
  try simp only [Act.put, List.setIfInBounds_toArray, List.set_cons_zero, List.set_cons_succ]
  refine wpAnyH_take (i := 2) (oi := ⟨_, _, _, _, _, _⟩) (v := .pointer (some ⟨g, 0, none⟩)) rfl (by kernel_rfl) (by kernel_rfl) (by kernel_rfl) (fun _ _ _ h => h) (Or.inl ⟨wanted_free rfl, fun w' hSw => ?_⟩) hHeld ?_
  · go_simp
  try simp only [Act.put, List.setIfInBounds_toArray, List.set_cons_zero, List.set_cons_succ]
  refine wpAnyH_take (i := 4) (oi := ⟨_, _, _, _, _, _⟩) (v := .pointer (some ⟨g, 0, none⟩)) rfl (by kernel_rfl) (by kernel_rfl) (by kernel_rfl) (fun _ _ _ h => h) (Or.inl ⟨wanted_free rfl, fun w' hSw => ?_⟩) hHeld ?_
  · go_simp
  try simp only [Act.put, List.setIfInBounds_toArray, List.set_cons_zero, List.set_cons_succ]
  refine wpAnyH_take (i := 5) (oi := ⟨_, _, _, _, _, _⟩) (v := .pointer (some ⟨g, 0, none⟩)) rfl (by kernel_rfl) (by kernel_rfl) (by kernel_rfl) (fun _ _ _ h => h) (Or.inl ⟨wanted_free rfl, fun w' hSw => ?_⟩) hHeld ?_
  · go_simp
  try simp only [Act.put, List.setIfInBounds_toArray, List.set_cons_zero, List.set_cons_succ]
  refine wpAnyH_take (i := 6) (oi := ⟨_, _, _, _, _, _⟩) (v := .pointer (some ⟨g, 0, none⟩)) rfl (by kernel_rfl) (by kernel_rfl) (by kernel_rfl) (fun _ _ _ h => h) (Or.inl ⟨wanted_free rfl, fun w' hSw => ?_⟩) hHeld ?_
  · go_simp
  try simp only [Act.put, List.setIfInBounds_toArray, List.set_cons_zero, List.set_cons_succ]
  refine wpAnyH_take (i := 8) (oi := ⟨_, _, _, _, _, _⟩) (v := .pointer (some ⟨g, 0, none⟩)) rfl (by kernel_rfl) (by kernel_rfl) (by kernel_rfl) (fun _ _ _ h => h) (Or.inl ⟨wanted_free rfl, fun w' hSw => ?_⟩) hHeld ?_
  · go_simp
  try simp only [Act.put, List.setIfInBounds_toArray, List.set_cons_zero, List.set_cons_succ]
  refine wpAnyH_take (i := 9) (oi := ⟨_, _, _, _, _, _⟩) (v := .pointer (some ⟨g, 0, none⟩)) rfl (by kernel_rfl) (by kernel_rfl) (by kernel_rfl) (fun _ _ _ h => h) (Or.inl ⟨wanted_free rfl, fun w' hSw => ?_⟩) hHeld ?_
  · go_simp
  try simp only [Act.put, List.setIfInBounds_toArray, List.set_cons_zero, List.set_cons_succ]
  refine wpAnyH_take (i := 10) (oi := ⟨_, _, _, _, _, _⟩) (v := .pointer (some ⟨g, 0, none⟩)) rfl (by kernel_rfl) (by kernel_rfl) (by kernel_rfl) (fun _ _ _ h => h) (Or.inl ⟨wanted_free rfl, fun w' hSw => ?_⟩) hHeld ?_
  · go_simp
  try simp only [Act.put, List.setIfInBounds_toArray, List.set_cons_zero, List.set_cons_succ]
  refine wpAnyH_ready (rs := [3, 13]) (by kernel_rfl) (by simp) (AllReadyH.cons (o := ⟨_, _, _, _, _, _⟩) rfl (fun K hK => ?_) (AllReadyH.cons (o := ⟨_, _, _, _, _, _⟩) rfl (fun K hK => ?_) AllReadyH.nil))
  · as_aux_lemma =>
    rewrite [if_pos (wanted_free rfl)]
    go_simp
    have n3_0 : RowV w2 g [.string t, .int .i64 (p : Int)] := (Sta.r (i := 1) HS2 rfl :)
    (with_reducible refine (hC1 w2 n3_0).mono ?_)
    rintro r w3 ⟨rfl, hA3, hO3⟩
    have HS3 := Sta.put 1 HS2 rfl hA3 (by simp) hO3
    clear hA3 hO3
    go_wp2_with fail
    refine hK.out _ _ trivial (fun hHeld => ?_)
    clear hK K
    try simp only [Act.put, List.setIfInBounds_toArray, List.set_cons_zero, List.set_cons_succ]
    refine wpAnyH_ready (rs := [7, 13]) (by kernel_rfl) (by simp) (AllReadyH.cons (o := ⟨_, _, _, _, _, _⟩) rfl (fun K hK => ?_) (AllReadyH.cons (o := ⟨_, _, _, _, _, _⟩) rfl (fun K hK => ?_) AllReadyH.nil))
    · as_aux_lemma =>
      rewrite [if_pos (wanted_free rfl)]
      go_simp
      go_wp2_with fail
      have n4_0 : RowV w3 g [.string t, .int .i64 (b1 : Int)] := (Sta.r (i := 1) HS3 rfl :)
      refine (hC2 w3 n4_0).mono ?_
      rintro r w4 ⟨rfl, hO4⟩
      exact ⟨rfl, rfl, (Sta.only HS3 hg).trans hO4⟩
    · as_aux_lemma =>
      rewrite [if_pos (wanted_free rfl)]
      with_reducible refine wp_allocV 35 (by with_unfolding_all rfl) [.int .i64 0, .string ⟨#[]⟩, .int .i64 0] Try.zT_implHead ?_
      intro w5 hA5 hB5
      have HS5 := Sta.new HS3 hA5 hB5 (by simp)
      clear hA5 hB5
      refine hK.out _ _ trivial (fun hHeld => ?_)
      clear hK K
      try simp only [Act.put, List.setIfInBounds_toArray, List.set_cons_zero, List.set_cons_succ]
      refine wpAnyH_ready (rs := [7]) (by kernel_rfl) (by simp) (AllReadyH.cons (o := ⟨_, _, _, _, _, _⟩) rfl (fun K hK => ?_) AllReadyH.nil)
      rewrite [if_pos (wanted_free rfl)]
      go_simp
      go_wp2_with fail
      have n6_0 : RowV w5 g [.string t, .int .i64 (b1 : Int)] := (Sta.r (i := 2) HS5 rfl :)
      refine (hC2 w5 n6_0).mono ?_
      rintro r w6 ⟨rfl, hO6⟩
      exact ⟨rfl, rfl, (Sta.only HS5 hg).trans hO6⟩
  · as_aux_lemma =>
    rewrite [if_pos (wanted_free rfl)]
    with_reducible refine wp_allocV 35 (by with_unfolding_all rfl) [.int .i64 0, .string ⟨#[]⟩, .int .i64 0] Try.zT_implHead ?_
    intro w7 hA7 hB7
    have HS7 := Sta.new HS2 hA7 hB7 (by simp)
    clear hA7 hB7
    refine hK.out _ _ trivial (fun hHeld => ?_)
    clear hK K
    try simp only [Act.put, List.setIfInBounds_toArray, List.set_cons_zero, List.set_cons_succ]
    refine wpAnyH_ready (rs := [3]) (by kernel_rfl) (by simp) (AllReadyH.cons (o := ⟨_, _, _, _, _, _⟩) rfl (fun K hK => ?_) AllReadyH.nil)
    rewrite [if_pos (wanted_free rfl)]
    go_simp
    have n8_0 : RowV w7 g [.string t, .int .i64 (p : Int)] := (Sta.r (i := 2) HS7 rfl :)
    (with_reducible refine (hC1 w7 n8_0).mono ?_)
    rintro r w8 ⟨rfl, hA8, hO8⟩
    have HS8 := Sta.put 2 HS7 rfl hA8 (by simp) hO8
    clear hA8 hO8
    go_wp2_with fail
    refine hK.out _ _ trivial (fun hHeld => ?_)
    clear hK K
    try simp only [Act.put, List.setIfInBounds_toArray, List.set_cons_zero, List.set_cons_succ]
    refine wpAnyH_ready (rs := [7]) (by kernel_rfl) (by simp) (AllReadyH.cons (o := ⟨_, _, _, _, _, _⟩) rfl (fun K hK => ?_) AllReadyH.nil)
    rewrite [if_pos (wanted_free rfl)]
    go_simp
    go_wp2_with fail
    have n9_0 : RowV w8 g [.string t, .int .i64 (b1 : Int)] := (Sta.r (i := 2) HS8 rfl :)
    refine (hC2 w8 n9_0).mono ?_
    rintro r w9 ⟨rfl, hO9⟩
    exact ⟨rfl, rfl, (Sta.only HS8 hg).trans hO9⟩
set_option maxRecDepth 100000 in
set_option maxHeartbeats 4000000 in
theorem hdN2 (g p b1 b2 : Nat) (t : ByteArray) (s : Int) (rt : ByteArray) (w : World) (hs : t.size ≤ maxLen) (hl1 : p ≤ t.size) (hn1 : numO t p = some (s, b1)) (hl2 : b1 ≤ t.size) (hn2 : bytesO t b1 32 = some (rt, b2)) (hl3 : b2 ≤ t.size) (hn3 : numO t b2 = none) (h : RowV w g (cuv t p)) :
    Calls Try.prog 75 #[.pointer (some ⟨g, 0, none⟩)] w fun e w' => e = .panicked [{ v := faultV, recovered := false }] ∧ Only g w w' := by
  have hg : g < w.heap.size := h.lt (cuv_ne _ _)
  have hC1 : ∀ w0, (RowV w0 g [.string t, .int .i64 (p : Int)]) → Calls Try.prog 111 #[.pointer (some ⟨g, 0, none⟩)] w0 fun r w' => r = .returned (.int .i64 s) ∧ RowV w' g [.string t, .int .i64 (b1 : Int)] ∧ Only g w0 w' := fun w0 n0 => numYes g p b1 t s w0 hs ⟨hn1, hl1⟩ n0
  have hC2 : ∀ w0, (RowV w0 g [.string t, .int .i64 (b1 : Int)]) → Calls Try.prog 123 #[.pointer (some ⟨g, 0, none⟩), .int .i64 32] w0 fun r w' => r = .returned (.string rt) ∧ RowV w' g [.string t, .int .i64 (b2 : Int)] ∧ Only g w0 w' := fun w0 n0 => by have h5 := bytesO_yes hn2; rw [h5.1]; exact bytesYes g b1 32 b2 t w0 hs h5.2.1 h5.2.2 n0
  have hC3 : ∀ w0, (RowV w0 g [.string t, .int .i64 (b2 : Int)]) → Calls Try.prog 111 #[.pointer (some ⟨g, 0, none⟩)] w0 fun r w' => r = .panicked [{ v := faultV, recovered := false }] ∧ Only g w0 w' := fun w0 n0 => numNo g b2 t w0 hs hn3 hl3 n0
  have HS0 : Hid (Sta [g] w [(g, [.string t, .int .i64 (p : Int)])] [⟨fun k => k < w.heap.size ∧ k ≠ g, fun _ => True⟩] w) := Sta.recv h (cuv_ne _ _) (fun _ => True) (fun _ _ => trivial)
  clear h hs hl1 hn1 hl2 hn2 hl3 hn3
  go_enter Try.func75, Try.ntmps75
  go_wp2_with (first
    | ((with_reducible refine wpList_allocV (w := w) (by with_unfolding_all rfl) 35 (by with_unfolding_all rfl) [.int .i64 0, .string ⟨#[]⟩, .int .i64 0] Try.zT_implHead ?_); intro w1 hA1 hB1 hS1; clear hS1; have HS1 := Sta.new HS0 hA1 hB1 (by simp); clear hA1 hB1))
  have HS2 := Sta.drew HS1
  refine wp_region_held_drew (S := fun w' => True) (by kernel_rfl) trivial (fun hHeld => ?_)
  generalize w1.drew = w2 at *
  refine wpAnyH_take (i := 0) (oi := ⟨_, _, _, _, _, _⟩) (v := .pointer (some ⟨g, 0, none⟩)) rfl (by kernel_rfl) (by kernel_rfl) (by kernel_rfl) (fun _ _ _ h => h) (Or.inl ⟨wanted_free rfl, fun w' hSw => ?_⟩) hHeld ?_
  · go_simp
  try simp only [Act.put, List.setIfInBounds_toArray, List.set_cons_zero, List.set_cons_succ]
  refine wpAnyH_take (i := 1) (oi := ⟨_, _, _, _, _, _⟩) (v := .pointer (some ⟨g, 0, none⟩)) rfl (by kernel_rfl) (by kernel_rfl) (by kernel_rfl) (fun _ _ _ h => h) (Or.inl ⟨wanted_free rfl, fun w' hSw => ?_⟩) hHeld ?_
  · go_simp
  try simp only [Act.put, List.setIfInBounds_toArray, List.set_cons_zero, List.set_cons_succ]
  refine wpAnyH_take (i := 2) (oi := ⟨_, _, _, _, _, _⟩) (v := .pointer (some ⟨g, 0, none⟩)) rfl (by kernel_rfl) (by kernel_rfl) (by kernel_rfl) (fun _ _ _ h => h) (Or.inl ⟨wanted_free rfl, fun w' hSw => ?_⟩) hHeld ?_
  · go_simp
  try simp only [Act.put, List.setIfInBounds_toArray, List.set_cons_zero, List.set_cons_succ]
  refine wpAnyH_take (i := 4) (oi := ⟨_, _, _, _, _, _⟩) (v := .pointer (some ⟨g, 0, none⟩)) rfl (by kernel_rfl) (by kernel_rfl) (by kernel_rfl) (fun _ _ _ h => h) (Or.inl ⟨wanted_free rfl, fun w' hSw => ?_⟩) hHeld ?_
  · go_simp
  try simp only [Act.put, List.setIfInBounds_toArray, List.set_cons_zero, List.set_cons_succ]
  refine wpAnyH_take (i := 5) (oi := ⟨_, _, _, _, _, _⟩) (v := .pointer (some ⟨g, 0, none⟩)) rfl (by kernel_rfl) (by kernel_rfl) (by kernel_rfl) (fun _ _ _ h => h) (Or.inl ⟨wanted_free rfl, fun w' hSw => ?_⟩) hHeld ?_
  · go_simp
  try simp only [Act.put, List.setIfInBounds_toArray, List.set_cons_zero, List.set_cons_succ]
  refine wpAnyH_take (i := 6) (oi := ⟨_, _, _, _, _, _⟩) (v := .pointer (some ⟨g, 0, none⟩)) rfl (by kernel_rfl) (by kernel_rfl) (by kernel_rfl) (fun _ _ _ h => h) (Or.inl ⟨wanted_free rfl, fun w' hSw => ?_⟩) hHeld ?_
  · go_simp
  try simp only [Act.put, List.setIfInBounds_toArray, List.set_cons_zero, List.set_cons_succ]
  refine wpAnyH_take (i := 8) (oi := ⟨_, _, _, _, _, _⟩) (v := .pointer (some ⟨g, 0, none⟩)) rfl (by kernel_rfl) (by kernel_rfl) (by kernel_rfl) (fun _ _ _ h => h) (Or.inl ⟨wanted_free rfl, fun w' hSw => ?_⟩) hHeld ?_
  · go_simp
  try simp only [Act.put, List.setIfInBounds_toArray, List.set_cons_zero, List.set_cons_succ]
  refine wpAnyH_take (i := 9) (oi := ⟨_, _, _, _, _, _⟩) (v := .pointer (some ⟨g, 0, none⟩)) rfl (by kernel_rfl) (by kernel_rfl) (by kernel_rfl) (fun _ _ _ h => h) (Or.inl ⟨wanted_free rfl, fun w' hSw => ?_⟩) hHeld ?_
  · go_simp
  try simp only [Act.put, List.setIfInBounds_toArray, List.set_cons_zero, List.set_cons_succ]
  refine wpAnyH_take (i := 10) (oi := ⟨_, _, _, _, _, _⟩) (v := .pointer (some ⟨g, 0, none⟩)) rfl (by kernel_rfl) (by kernel_rfl) (by kernel_rfl) (fun _ _ _ h => h) (Or.inl ⟨wanted_free rfl, fun w' hSw => ?_⟩) hHeld ?_
  · go_simp
  try simp only [Act.put, List.setIfInBounds_toArray, List.set_cons_zero, List.set_cons_succ]
  refine wpAnyH_ready (rs := [3, 13]) (by kernel_rfl) (by simp) (AllReadyH.cons (o := ⟨_, _, _, _, _, _⟩) rfl (fun K hK => ?_) (AllReadyH.cons (o := ⟨_, _, _, _, _, _⟩) rfl (fun K hK => ?_) AllReadyH.nil))
  · as_aux_lemma =>
    rewrite [if_pos (wanted_free rfl)]
    go_simp
    have n3_0 : RowV w2 g [.string t, .int .i64 (p : Int)] := (Sta.r (i := 1) HS2 rfl :)
    (with_reducible refine (hC1 w2 n3_0).mono ?_)
    rintro r w3 ⟨rfl, hA3, hO3⟩
    have HS3 := Sta.put 1 HS2 rfl hA3 (by simp) hO3
    clear hA3 hO3
    go_wp2_with fail
    refine hK.out _ _ trivial (fun hHeld => ?_)
    clear hK K
    try simp only [Act.put, List.setIfInBounds_toArray, List.set_cons_zero, List.set_cons_succ]
    refine wpAnyH_ready (rs := [7, 13]) (by kernel_rfl) (by simp) (AllReadyH.cons (o := ⟨_, _, _, _, _, _⟩) rfl (fun K hK => ?_) (AllReadyH.cons (o := ⟨_, _, _, _, _, _⟩) rfl (fun K hK => ?_) AllReadyH.nil))
    · as_aux_lemma =>
      rewrite [if_pos (wanted_free rfl)]
      go_simp
      have n4_0 : RowV w3 g [.string t, .int .i64 (b1 : Int)] := (Sta.r (i := 1) HS3 rfl :)
      (with_reducible refine (hC2 w3 n4_0).mono ?_)
      rintro r w4 ⟨rfl, hA4, hO4⟩
      have HS4 := Sta.put 1 HS3 rfl hA4 (by simp) hO4
      clear hA4 hO4
      go_wp2_with fail
      refine hK.out _ _ trivial (fun hHeld => ?_)
      clear hK K
      try simp only [Act.put, List.setIfInBounds_toArray, List.set_cons_zero, List.set_cons_succ]
      refine wpAnyH_ready (rs := [11, 13]) (by kernel_rfl) (by simp) (AllReadyH.cons (o := ⟨_, _, _, _, _, _⟩) rfl (fun K hK => ?_) (AllReadyH.cons (o := ⟨_, _, _, _, _, _⟩) rfl (fun K hK => ?_) AllReadyH.nil))
      · as_aux_lemma =>
        rewrite [if_pos (wanted_free rfl)]
        go_simp
        go_wp2_with fail
        have n5_0 : RowV w4 g [.string t, .int .i64 (b2 : Int)] := (Sta.r (i := 1) HS4 rfl :)
        refine (hC3 w4 n5_0).mono ?_
        rintro r w5 ⟨rfl, hO5⟩
        exact ⟨rfl, rfl, (Sta.only HS4 hg).trans hO5⟩
      · as_aux_lemma =>
        rewrite [if_pos (wanted_free rfl)]
        with_reducible refine wp_allocV 35 (by with_unfolding_all rfl) [.int .i64 0, .string ⟨#[]⟩, .int .i64 0] Try.zT_implHead ?_
        intro w6 hA6 hB6
        have HS6 := Sta.new HS4 hA6 hB6 (by simp)
        clear hA6 hB6
        refine hK.out _ _ trivial (fun hHeld => ?_)
        clear hK K
        try simp only [Act.put, List.setIfInBounds_toArray, List.set_cons_zero, List.set_cons_succ]
        refine wpAnyH_ready (rs := [11]) (by kernel_rfl) (by simp) (AllReadyH.cons (o := ⟨_, _, _, _, _, _⟩) rfl (fun K hK => ?_) AllReadyH.nil)
        rewrite [if_pos (wanted_free rfl)]
        go_simp
        go_wp2_with fail
        have n7_0 : RowV w6 g [.string t, .int .i64 (b2 : Int)] := (Sta.r (i := 2) HS6 rfl :)
        refine (hC3 w6 n7_0).mono ?_
        rintro r w7 ⟨rfl, hO7⟩
        exact ⟨rfl, rfl, (Sta.only HS6 hg).trans hO7⟩
    · as_aux_lemma =>
      rewrite [if_pos (wanted_free rfl)]
      with_reducible refine wp_allocV 35 (by with_unfolding_all rfl) [.int .i64 0, .string ⟨#[]⟩, .int .i64 0] Try.zT_implHead ?_
      intro w8 hA8 hB8
      have HS8 := Sta.new HS3 hA8 hB8 (by simp)
      clear hA8 hB8
      refine hK.out _ _ trivial (fun hHeld => ?_)
      clear hK K
      try simp only [Act.put, List.setIfInBounds_toArray, List.set_cons_zero, List.set_cons_succ]
      refine wpAnyH_ready (rs := [7]) (by kernel_rfl) (by simp) (AllReadyH.cons (o := ⟨_, _, _, _, _, _⟩) rfl (fun K hK => ?_) AllReadyH.nil)
      rewrite [if_pos (wanted_free rfl)]
      go_simp
      have n9_0 : RowV w8 g [.string t, .int .i64 (b1 : Int)] := (Sta.r (i := 2) HS8 rfl :)
      (with_reducible refine (hC2 w8 n9_0).mono ?_)
      rintro r w9 ⟨rfl, hA9, hO9⟩
      have HS9 := Sta.put 2 HS8 rfl hA9 (by simp) hO9
      clear hA9 hO9
      go_wp2_with fail
      refine hK.out _ _ trivial (fun hHeld => ?_)
      clear hK K
      try simp only [Act.put, List.setIfInBounds_toArray, List.set_cons_zero, List.set_cons_succ]
      refine wpAnyH_ready (rs := [11]) (by kernel_rfl) (by simp) (AllReadyH.cons (o := ⟨_, _, _, _, _, _⟩) rfl (fun K hK => ?_) AllReadyH.nil)
      rewrite [if_pos (wanted_free rfl)]
      go_simp
      go_wp2_with fail
      have n10_0 : RowV w9 g [.string t, .int .i64 (b2 : Int)] := (Sta.r (i := 2) HS9 rfl :)
      refine (hC3 w9 n10_0).mono ?_
      rintro r w10 ⟨rfl, hO10⟩
      exact ⟨rfl, rfl, (Sta.only HS9 hg).trans hO10⟩
  · as_aux_lemma =>
    rewrite [if_pos (wanted_free rfl)]
    with_reducible refine wp_allocV 35 (by with_unfolding_all rfl) [.int .i64 0, .string ⟨#[]⟩, .int .i64 0] Try.zT_implHead ?_
    intro w11 hA11 hB11
    have HS11 := Sta.new HS2 hA11 hB11 (by simp)
    clear hA11 hB11
    refine hK.out _ _ trivial (fun hHeld => ?_)
    clear hK K
    try simp only [Act.put, List.setIfInBounds_toArray, List.set_cons_zero, List.set_cons_succ]
    refine wpAnyH_ready (rs := [3]) (by kernel_rfl) (by simp) (AllReadyH.cons (o := ⟨_, _, _, _, _, _⟩) rfl (fun K hK => ?_) AllReadyH.nil)
    rewrite [if_pos (wanted_free rfl)]
    go_simp
    have n12_0 : RowV w11 g [.string t, .int .i64 (p : Int)] := (Sta.r (i := 2) HS11 rfl :)
    (with_reducible refine (hC1 w11 n12_0).mono ?_)
    rintro r w12 ⟨rfl, hA12, hO12⟩
    have HS12 := Sta.put 2 HS11 rfl hA12 (by simp) hO12
    clear hA12 hO12
    go_wp2_with fail
    refine hK.out _ _ trivial (fun hHeld => ?_)
    clear hK K
    try simp only [Act.put, List.setIfInBounds_toArray, List.set_cons_zero, List.set_cons_succ]
    refine wpAnyH_ready (rs := [7]) (by kernel_rfl) (by simp) (AllReadyH.cons (o := ⟨_, _, _, _, _, _⟩) rfl (fun K hK => ?_) AllReadyH.nil)
    rewrite [if_pos (wanted_free rfl)]
    go_simp
    have n13_0 : RowV w12 g [.string t, .int .i64 (b1 : Int)] := (Sta.r (i := 2) HS12 rfl :)
    (with_reducible refine (hC2 w12 n13_0).mono ?_)
    rintro r w13 ⟨rfl, hA13, hO13⟩
    have HS13 := Sta.put 2 HS12 rfl hA13 (by simp) hO13
    clear hA13 hO13
    go_wp2_with fail
    refine hK.out _ _ trivial (fun hHeld => ?_)
    clear hK K
    try simp only [Act.put, List.setIfInBounds_toArray, List.set_cons_zero, List.set_cons_succ]
    refine wpAnyH_ready (rs := [11]) (by kernel_rfl) (by simp) (AllReadyH.cons (o := ⟨_, _, _, _, _, _⟩) rfl (fun K hK => ?_) AllReadyH.nil)
    rewrite [if_pos (wanted_free rfl)]
    go_simp
    go_wp2_with fail
    have n14_0 : RowV w13 g [.string t, .int .i64 (b2 : Int)] := (Sta.r (i := 2) HS13 rfl :)
    refine (hC3 w13 n14_0).mono ?_
    rintro r w14 ⟨rfl, hO14⟩
    exact ⟨rfl, rfl, (Sta.only HS13 hg).trans hO14⟩
set_option maxRecDepth 100000 in
set_option maxHeartbeats 4000000 in
theorem hdN3 (g p b1 b2 b3 : Nat) (t : ByteArray) (s : Int) (rt : ByteArray) (x : Int) (w : World) (hs : t.size ≤ maxLen) (hl1 : p ≤ t.size) (hn1 : numO t p = some (s, b1)) (hl2 : b1 ≤ t.size) (hn2 : bytesO t b1 32 = some (rt, b2)) (hl3 : b2 ≤ t.size) (hn3 : numO t b2 = some (x, b3)) (hh : headB s rt x = false) (h : RowV w g (cuv t p)) :
    Calls Try.prog 75 #[.pointer (some ⟨g, 0, none⟩)] w fun e w' => e = .panicked [{ v := faultV, recovered := false }] ∧ Only g w w' := by
  have hg : g < w.heap.size := h.lt (cuv_ne _ _)
  have hC1 : ∀ w0, (RowV w0 g [.string t, .int .i64 (p : Int)]) → Calls Try.prog 111 #[.pointer (some ⟨g, 0, none⟩)] w0 fun r w' => r = .returned (.int .i64 s) ∧ RowV w' g [.string t, .int .i64 (b1 : Int)] ∧ Only g w0 w' := fun w0 n0 => numYes g p b1 t s w0 hs ⟨hn1, hl1⟩ n0
  have hC2 : ∀ w0, (RowV w0 g [.string t, .int .i64 (b1 : Int)]) → Calls Try.prog 123 #[.pointer (some ⟨g, 0, none⟩), .int .i64 32] w0 fun r w' => r = .returned (.string rt) ∧ RowV w' g [.string t, .int .i64 (b2 : Int)] ∧ Only g w0 w' := fun w0 n0 => by have h5 := bytesO_yes hn2; rw [h5.1]; exact bytesYes g b1 32 b2 t w0 hs h5.2.1 h5.2.2 n0
  have hC3 : ∀ w0, (RowV w0 g [.string t, .int .i64 (b2 : Int)]) → Calls Try.prog 111 #[.pointer (some ⟨g, 0, none⟩)] w0 fun r w' => r = .returned (.int .i64 x) ∧ RowV w' g [.string t, .int .i64 (b3 : Int)] ∧ Only g w0 w' := fun w0 n0 => numYes g b2 b3 t x w0 hs ⟨hn3, hl3⟩ n0
  have hC4 : ∀ w0, Calls Try.prog 71 #[.agg #[.int .i64 s, .string rt, .int .i64 x]] w0 fun r w' => r = .returned (.bool false) ∧ Below w0.heap.size w0 w' := fun w0 => by rw [← hh]; exact implHead s rt x w0 (by have := (bytesO_size hn2).1; unfold maxLen; omega)
  have hC5 : ∀ w0, Calls Try.prog 110 #[.pointer (some ⟨g, 0, none⟩), .bool false] w0 fun r w' => r = .panicked [{ v := faultV, recovered := false }] ∧ Only g w0 w' := fun w0 => (mustNo _ w0).mono fun r w' ⟨h1, h2⟩ => ⟨h1, h2 ▸ Only.refl g w0⟩
  have HS0 : Hid (Sta [g] w [(g, [.string t, .int .i64 (p : Int)])] [⟨fun k => k < w.heap.size ∧ k ≠ g, fun _ => True⟩] w) := Sta.recv h (cuv_ne _ _) (fun _ => True) (fun _ _ => trivial)
  clear h hs hl1 hn1 hl2 hn2 hl3 hn3 hh
  go_enter Try.func75, Try.ntmps75
  go_wp2_with (first
    | ((with_reducible refine wpList_allocV (w := w) (by with_unfolding_all rfl) 35 (by with_unfolding_all rfl) [.int .i64 0, .string ⟨#[]⟩, .int .i64 0] Try.zT_implHead ?_); intro w1 hA1 hB1 hS1; clear hS1; have HS1 := Sta.new HS0 hA1 hB1 (by simp); clear hA1 hB1))
  have HS2 := Sta.drew HS1
  refine wp_region_held_drew (S := fun w' => True) (by kernel_rfl) trivial (fun hHeld => ?_)
  generalize w1.drew = w2 at *
  refine wpAnyH_take (i := 0) (oi := ⟨_, _, _, _, _, _⟩) (v := .pointer (some ⟨g, 0, none⟩)) rfl (by kernel_rfl) (by kernel_rfl) (by kernel_rfl) (fun _ _ _ h => h) (Or.inl ⟨wanted_free rfl, fun w' hSw => ?_⟩) hHeld ?_
  · go_simp
  try simp only [Act.put, List.setIfInBounds_toArray, List.set_cons_zero, List.set_cons_succ]
  refine wpAnyH_take (i := 1) (oi := ⟨_, _, _, _, _, _⟩) (v := .pointer (some ⟨g, 0, none⟩)) rfl (by kernel_rfl) (by kernel_rfl) (by kernel_rfl) (fun _ _ _ h => h) (Or.inl ⟨wanted_free rfl, fun w' hSw => ?_⟩) hHeld ?_
  · go_simp
  try simp only [Act.put, List.setIfInBounds_toArray, List.set_cons_zero, List.set_cons_succ]
  refine wpAnyH_take (i := 2) (oi := ⟨_, _, _, _, _, _⟩) (v := .pointer (some ⟨g, 0, none⟩)) rfl (by kernel_rfl) (by kernel_rfl) (by kernel_rfl) (fun _ _ _ h => h) (Or.inl ⟨wanted_free rfl, fun w' hSw => ?_⟩) hHeld ?_
  · go_simp
  try simp only [Act.put, List.setIfInBounds_toArray, List.set_cons_zero, List.set_cons_succ]
  refine wpAnyH_take (i := 4) (oi := ⟨_, _, _, _, _, _⟩) (v := .pointer (some ⟨g, 0, none⟩)) rfl (by kernel_rfl) (by kernel_rfl) (by kernel_rfl) (fun _ _ _ h => h) (Or.inl ⟨wanted_free rfl, fun w' hSw => ?_⟩) hHeld ?_
  · go_simp
  try simp only [Act.put, List.setIfInBounds_toArray, List.set_cons_zero, List.set_cons_succ]
  refine wpAnyH_take (i := 5) (oi := ⟨_, _, _, _, _, _⟩) (v := .pointer (some ⟨g, 0, none⟩)) rfl (by kernel_rfl) (by kernel_rfl) (by kernel_rfl) (fun _ _ _ h => h) (Or.inl ⟨wanted_free rfl, fun w' hSw => ?_⟩) hHeld ?_
  · go_simp
  try simp only [Act.put, List.setIfInBounds_toArray, List.set_cons_zero, List.set_cons_succ]
  refine wpAnyH_take (i := 6) (oi := ⟨_, _, _, _, _, _⟩) (v := .pointer (some ⟨g, 0, none⟩)) rfl (by kernel_rfl) (by kernel_rfl) (by kernel_rfl) (fun _ _ _ h => h) (Or.inl ⟨wanted_free rfl, fun w' hSw => ?_⟩) hHeld ?_
  · go_simp
  try simp only [Act.put, List.setIfInBounds_toArray, List.set_cons_zero, List.set_cons_succ]
  refine wpAnyH_take (i := 8) (oi := ⟨_, _, _, _, _, _⟩) (v := .pointer (some ⟨g, 0, none⟩)) rfl (by kernel_rfl) (by kernel_rfl) (by kernel_rfl) (fun _ _ _ h => h) (Or.inl ⟨wanted_free rfl, fun w' hSw => ?_⟩) hHeld ?_
  · go_simp
  try simp only [Act.put, List.setIfInBounds_toArray, List.set_cons_zero, List.set_cons_succ]
  refine wpAnyH_take (i := 9) (oi := ⟨_, _, _, _, _, _⟩) (v := .pointer (some ⟨g, 0, none⟩)) rfl (by kernel_rfl) (by kernel_rfl) (by kernel_rfl) (fun _ _ _ h => h) (Or.inl ⟨wanted_free rfl, fun w' hSw => ?_⟩) hHeld ?_
  · go_simp
  try simp only [Act.put, List.setIfInBounds_toArray, List.set_cons_zero, List.set_cons_succ]
  refine wpAnyH_take (i := 10) (oi := ⟨_, _, _, _, _, _⟩) (v := .pointer (some ⟨g, 0, none⟩)) rfl (by kernel_rfl) (by kernel_rfl) (by kernel_rfl) (fun _ _ _ h => h) (Or.inl ⟨wanted_free rfl, fun w' hSw => ?_⟩) hHeld ?_
  · go_simp
  try simp only [Act.put, List.setIfInBounds_toArray, List.set_cons_zero, List.set_cons_succ]
  refine wpAnyH_ready (rs := [3, 13]) (by kernel_rfl) (by simp) (AllReadyH.cons (o := ⟨_, _, _, _, _, _⟩) rfl (fun K hK => ?_) (AllReadyH.cons (o := ⟨_, _, _, _, _, _⟩) rfl (fun K hK => ?_) AllReadyH.nil))
  · as_aux_lemma =>
    rewrite [if_pos (wanted_free rfl)]
    go_simp
    have n3_0 : RowV w2 g [.string t, .int .i64 (p : Int)] := (Sta.r (i := 1) HS2 rfl :)
    (with_reducible refine (hC1 w2 n3_0).mono ?_)
    rintro r w3 ⟨rfl, hA3, hO3⟩
    have HS3 := Sta.put 1 HS2 rfl hA3 (by simp) hO3
    clear hA3 hO3
    go_wp2_with fail
    refine hK.out _ _ trivial (fun hHeld => ?_)
    clear hK K
    try simp only [Act.put, List.setIfInBounds_toArray, List.set_cons_zero, List.set_cons_succ]
    refine wpAnyH_ready (rs := [7, 13]) (by kernel_rfl) (by simp) (AllReadyH.cons (o := ⟨_, _, _, _, _, _⟩) rfl (fun K hK => ?_) (AllReadyH.cons (o := ⟨_, _, _, _, _, _⟩) rfl (fun K hK => ?_) AllReadyH.nil))
    · as_aux_lemma =>
      rewrite [if_pos (wanted_free rfl)]
      go_simp
      have n4_0 : RowV w3 g [.string t, .int .i64 (b1 : Int)] := (Sta.r (i := 1) HS3 rfl :)
      (with_reducible refine (hC2 w3 n4_0).mono ?_)
      rintro r w4 ⟨rfl, hA4, hO4⟩
      have HS4 := Sta.put 1 HS3 rfl hA4 (by simp) hO4
      clear hA4 hO4
      go_wp2_with fail
      refine hK.out _ _ trivial (fun hHeld => ?_)
      clear hK K
      try simp only [Act.put, List.setIfInBounds_toArray, List.set_cons_zero, List.set_cons_succ]
      refine wpAnyH_ready (rs := [11, 13]) (by kernel_rfl) (by simp) (AllReadyH.cons (o := ⟨_, _, _, _, _, _⟩) rfl (fun K hK => ?_) (AllReadyH.cons (o := ⟨_, _, _, _, _, _⟩) rfl (fun K hK => ?_) AllReadyH.nil))
      · as_aux_lemma =>
        rewrite [if_pos (wanted_free rfl)]
        go_simp
        have n5_0 : RowV w4 g [.string t, .int .i64 (b2 : Int)] := (Sta.r (i := 1) HS4 rfl :)
        (with_reducible refine (hC3 w4 n5_0).mono ?_)
        rintro r w5 ⟨rfl, hA5, hO5⟩
        have HS5 := Sta.put 1 HS4 rfl hA5 (by simp) hO5
        clear hA5 hO5
        go_wp2_with fail
        refine hK.out _ _ trivial (fun hHeld => ?_)
        clear hK K
        try simp only [Act.put, List.setIfInBounds_toArray, List.set_cons_zero, List.set_cons_succ]
        refine wpAnyH_take (i := 12) (oi := ⟨_, _, _, _, _, _⟩) (v := .agg #[.int .i64 s, .string rt, .int .i64 x]) rfl (by kernel_rfl) (by kernel_rfl) (by kernel_rfl) (fun _ _ _ h => h) (Or.inl ⟨wanted_free rfl, fun w' hSw => ?_⟩) hHeld ?_
        · go_simp
        try simp only [Act.put, List.setIfInBounds_toArray, List.set_cons_zero, List.set_cons_succ]
        refine wpAnyH_ready (rs := [13]) (by kernel_rfl) (by simp) (AllReadyH.cons (o := ⟨_, _, _, _, _, _⟩) rfl (fun K hK => ?_) AllReadyH.nil)
        rewrite [if_pos (wanted_free rfl)]
        with_reducible refine wp_allocV 35 (by with_unfolding_all rfl) [.int .i64 0, .string ⟨#[]⟩, .int .i64 0] Try.zT_implHead ?_
        intro w6 hA6 hB6
        have HS6 := Sta.new HS5 hA6 hB6 (by simp)
        clear hA6 hB6
        refine hK.out _ _ trivial (fun hHeld => ?_)
        clear hK K
        try simp only [Act.put, List.setIfInBounds_toArray, List.set_cons_zero, List.set_cons_succ]
        refine wpAnyH_ready (rs := [14]) (by kernel_rfl) (by simp) (AllReadyH.cons (o := ⟨_, _, _, _, _, _⟩) rfl (fun K hK => ?_) AllReadyH.nil)
        rewrite [if_pos (wanted_free rfl)]
        with_reducible refine wp_storeV 35 (.tmp 3) (.tmp 16) (by with_unfolding_all rfl) w5.heap.size [.int .i64 0, .string ⟨#[]⟩, .int .i64 0] [.int .i64 s, .string rt, .int .i64 x] (by with_unfolding_all rfl) (by with_unfolding_all rfl) (Sta.r (i := 0) HS6 (by with_unfolding_all rfl)) 3 Try.sT_implHead (by with_unfolding_all rfl) (by with_unfolding_all rfl) (List.all_eq_true.1 (by with_unfolding_all rfl)) ?_
        intro w7 hA7 hO7
        have HS7 := Sta.put 0 HS6 rfl hA7 (by simp) hO7
        clear hA7 hO7
        refine hK.out _ _ trivial (fun hHeld => ?_)
        clear hK K
        try simp only [Act.put]
        refine wpAnyH_done (by kernel_rfl) ?_ _
        clear hHeld
        go_wp2_with fail
        have HS8 := Sta.drew HS7
        refine wp_region_held_drew (S := fun w' => w'.cell? ⟨w5.heap.size, 0, none⟩ = some (.int .i64 s) ∧ w'.cell? ⟨w5.heap.size, 1, none⟩ = some (.string rt) ∧ w'.cell? ⟨w5.heap.size, 2, none⟩ = some (.int .i64 x)) (by kernel_rfl) ⟨Sta.c (i := 0) HS8 rfl rfl, Sta.c (i := 0) HS8 rfl rfl, Sta.c (i := 0) HS8 rfl rfl⟩ (fun hHeld => ?_)
        generalize w7.drew = w8 at *
        refine wpAnyH_take (i := 0) (oi := ⟨_, _, _, _, _, _⟩) (v := .pointer (some ⟨g, 0, none⟩)) rfl (by kernel_rfl) (by kernel_rfl) (by kernel_rfl) (fun _ _ _ h => h) (Or.inl ⟨wanted_free rfl, fun w' hSw => ?_⟩) hHeld ?_
        · go_simp
        try simp only [Act.put, List.setIfInBounds_toArray, List.set_cons_zero, List.set_cons_succ]
        refine wpAnyH_take (i := 1) (oi := ⟨_, _, _, _, _, _⟩) (v := .pointer (some ⟨g, 0, none⟩)) rfl (by kernel_rfl) (by kernel_rfl) (by kernel_rfl) (fun _ _ _ h => h) (Or.inl ⟨wanted_free rfl, fun w' hSw => ?_⟩) hHeld ?_
        · go_simp
        try simp only [Act.put, List.setIfInBounds_toArray, List.set_cons_zero, List.set_cons_succ]
        refine wpAnyH_take (i := 2) (oi := ⟨_, _, _, _, _, _⟩) (v := .pointer (some ⟨g, 0, none⟩)) rfl (by kernel_rfl) (by kernel_rfl) (by kernel_rfl) (fun _ _ _ h => h) (Or.inl ⟨wanted_free rfl, fun w' hSw => ?_⟩) hHeld ?_
        · go_simp
        try simp only [Act.put, List.setIfInBounds_toArray, List.set_cons_zero, List.set_cons_succ]
        refine wpAnyH_take (i := 3) (oi := ⟨_, _, _, _, _, _⟩) (v := .agg #[.int .i64 s, .string rt, .int .i64 x]) rfl (by kernel_rfl) (by kernel_rfl) (by kernel_rfl) (fun _ _ _ h => h) (Or.inl ⟨wanted_free rfl, fun w' hSw => ?_⟩) hHeld ?_
        · obtain ⟨s0, s1, s2⟩ := hSw
          go_simp
        try simp only [Act.put, List.setIfInBounds_toArray, List.set_cons_zero, List.set_cons_succ]
        refine wpAnyH_ready (rs := [4]) (by kernel_rfl) (by simp) (AllReadyH.cons (o := ⟨_, _, _, _, _, _⟩) rfl (fun K hK => ?_) AllReadyH.nil)
        rewrite [if_pos (wanted_free rfl)]
        go_simp
        (with_reducible refine (hC4 w8).mono ?_)
        rintro r w9 ⟨rfl, hB9⟩
        have HS9 := Sta.call HS8 hB9
        clear hB9
        go_wp2_with fail
        refine hK.out _ _ ⟨Sta.c (i := 0) HS9 rfl rfl, Sta.c (i := 0) HS9 rfl rfl, Sta.c (i := 0) HS9 rfl rfl⟩ (fun hHeld => ?_)
        clear hK K
        try simp only [Act.put, List.setIfInBounds_toArray, List.set_cons_zero, List.set_cons_succ]
        refine wpAnyH_ready (rs := [5]) (by kernel_rfl) (by simp) (AllReadyH.cons (o := ⟨_, _, _, _, _, _⟩) rfl (fun K hK => ?_) AllReadyH.nil)
        rewrite [if_pos (wanted_free rfl)]
        go_simp
        go_wp2_with fail
        refine (hC5 w9).mono ?_
        rintro r w10 ⟨rfl, hO10⟩
        exact ⟨rfl, rfl, (Sta.only HS9 hg).trans hO10⟩
      · as_aux_lemma =>
        rewrite [if_pos (wanted_free rfl)]
        with_reducible refine wp_allocV 35 (by with_unfolding_all rfl) [.int .i64 0, .string ⟨#[]⟩, .int .i64 0] Try.zT_implHead ?_
        intro w11 hA11 hB11
        have HS11 := Sta.new HS4 hA11 hB11 (by simp)
        clear hA11 hB11
        refine hK.out _ _ trivial (fun hHeld => ?_)
        clear hK K
        try simp only [Act.put, List.setIfInBounds_toArray, List.set_cons_zero, List.set_cons_succ]
        refine wpAnyH_ready (rs := [11]) (by kernel_rfl) (by simp) (AllReadyH.cons (o := ⟨_, _, _, _, _, _⟩) rfl (fun K hK => ?_) AllReadyH.nil)
        rewrite [if_pos (wanted_free rfl)]
        go_simp
        have n12_0 : RowV w11 g [.string t, .int .i64 (b2 : Int)] := (Sta.r (i := 2) HS11 rfl :)
        (with_reducible refine (hC3 w11 n12_0).mono ?_)
        rintro r w12 ⟨rfl, hA12, hO12⟩
        have HS12 := Sta.put 2 HS11 rfl hA12 (by simp) hO12
        clear hA12 hO12
        go_wp2_with fail
        refine hK.out _ _ trivial (fun hHeld => ?_)
        clear hK K
        try simp only [Act.put, List.setIfInBounds_toArray, List.set_cons_zero, List.set_cons_succ]
        refine wpAnyH_take (i := 12) (oi := ⟨_, _, _, _, _, _⟩) (v := .agg #[.int .i64 s, .string rt, .int .i64 x]) rfl (by kernel_rfl) (by kernel_rfl) (by kernel_rfl) (fun _ _ _ h => h) (Or.inl ⟨wanted_free rfl, fun w' hSw => ?_⟩) hHeld ?_
        · go_simp
        try simp only [Act.put, List.setIfInBounds_toArray, List.set_cons_zero, List.set_cons_succ]
        refine wpAnyH_ready (rs := [14]) (by kernel_rfl) (by simp) (AllReadyH.cons (o := ⟨_, _, _, _, _, _⟩) rfl (fun K hK => ?_) AllReadyH.nil)
        rewrite [if_pos (wanted_free rfl)]
        with_reducible refine wp_storeV 35 (.tmp 3) (.tmp 16) (by with_unfolding_all rfl) w4.heap.size [.int .i64 0, .string ⟨#[]⟩, .int .i64 0] [.int .i64 s, .string rt, .int .i64 x] (by with_unfolding_all rfl) (by with_unfolding_all rfl) (Sta.r (i := 0) HS12 (by with_unfolding_all rfl)) 3 Try.sT_implHead (by with_unfolding_all rfl) (by with_unfolding_all rfl) (List.all_eq_true.1 (by with_unfolding_all rfl)) ?_
        intro w13 hA13 hO13
        have HS13 := Sta.put 0 HS12 rfl hA13 (by simp) hO13
        clear hA13 hO13
        refine hK.out _ _ trivial (fun hHeld => ?_)
        clear hK K
        try simp only [Act.put]
        refine wpAnyH_done (by kernel_rfl) ?_ _
        clear hHeld
        go_wp2_with fail
        have HS14 := Sta.drew HS13
        refine wp_region_held_drew (S := fun w' => w'.cell? ⟨w4.heap.size, 0, none⟩ = some (.int .i64 s) ∧ w'.cell? ⟨w4.heap.size, 1, none⟩ = some (.string rt) ∧ w'.cell? ⟨w4.heap.size, 2, none⟩ = some (.int .i64 x)) (by kernel_rfl) ⟨Sta.c (i := 0) HS14 rfl rfl, Sta.c (i := 0) HS14 rfl rfl, Sta.c (i := 0) HS14 rfl rfl⟩ (fun hHeld => ?_)
        generalize w13.drew = w14 at *
        refine wpAnyH_take (i := 0) (oi := ⟨_, _, _, _, _, _⟩) (v := .pointer (some ⟨g, 0, none⟩)) rfl (by kernel_rfl) (by kernel_rfl) (by kernel_rfl) (fun _ _ _ h => h) (Or.inl ⟨wanted_free rfl, fun w' hSw => ?_⟩) hHeld ?_
        · go_simp
        try simp only [Act.put, List.setIfInBounds_toArray, List.set_cons_zero, List.set_cons_succ]
        refine wpAnyH_take (i := 1) (oi := ⟨_, _, _, _, _, _⟩) (v := .pointer (some ⟨g, 0, none⟩)) rfl (by kernel_rfl) (by kernel_rfl) (by kernel_rfl) (fun _ _ _ h => h) (Or.inl ⟨wanted_free rfl, fun w' hSw => ?_⟩) hHeld ?_
        · go_simp
        try simp only [Act.put, List.setIfInBounds_toArray, List.set_cons_zero, List.set_cons_succ]
        refine wpAnyH_take (i := 2) (oi := ⟨_, _, _, _, _, _⟩) (v := .pointer (some ⟨g, 0, none⟩)) rfl (by kernel_rfl) (by kernel_rfl) (by kernel_rfl) (fun _ _ _ h => h) (Or.inl ⟨wanted_free rfl, fun w' hSw => ?_⟩) hHeld ?_
        · go_simp
        try simp only [Act.put, List.setIfInBounds_toArray, List.set_cons_zero, List.set_cons_succ]
        refine wpAnyH_take (i := 3) (oi := ⟨_, _, _, _, _, _⟩) (v := .agg #[.int .i64 s, .string rt, .int .i64 x]) rfl (by kernel_rfl) (by kernel_rfl) (by kernel_rfl) (fun _ _ _ h => h) (Or.inl ⟨wanted_free rfl, fun w' hSw => ?_⟩) hHeld ?_
        · obtain ⟨s0, s1, s2⟩ := hSw
          go_simp
        try simp only [Act.put, List.setIfInBounds_toArray, List.set_cons_zero, List.set_cons_succ]
        refine wpAnyH_ready (rs := [4]) (by kernel_rfl) (by simp) (AllReadyH.cons (o := ⟨_, _, _, _, _, _⟩) rfl (fun K hK => ?_) AllReadyH.nil)
        rewrite [if_pos (wanted_free rfl)]
        go_simp
        (with_reducible refine (hC4 w14).mono ?_)
        rintro r w15 ⟨rfl, hB15⟩
        have HS15 := Sta.call HS14 hB15
        clear hB15
        go_wp2_with fail
        refine hK.out _ _ ⟨Sta.c (i := 0) HS15 rfl rfl, Sta.c (i := 0) HS15 rfl rfl, Sta.c (i := 0) HS15 rfl rfl⟩ (fun hHeld => ?_)
        clear hK K
        try simp only [Act.put, List.setIfInBounds_toArray, List.set_cons_zero, List.set_cons_succ]
        refine wpAnyH_ready (rs := [5]) (by kernel_rfl) (by simp) (AllReadyH.cons (o := ⟨_, _, _, _, _, _⟩) rfl (fun K hK => ?_) AllReadyH.nil)
        rewrite [if_pos (wanted_free rfl)]
        go_simp
        go_wp2_with fail
        refine (hC5 w15).mono ?_
        rintro r w16 ⟨rfl, hO16⟩
        exact ⟨rfl, rfl, (Sta.only HS15 hg).trans hO16⟩
    · as_aux_lemma =>
      rewrite [if_pos (wanted_free rfl)]
      with_reducible refine wp_allocV 35 (by with_unfolding_all rfl) [.int .i64 0, .string ⟨#[]⟩, .int .i64 0] Try.zT_implHead ?_
      intro w17 hA17 hB17
      have HS17 := Sta.new HS3 hA17 hB17 (by simp)
      clear hA17 hB17
      refine hK.out _ _ trivial (fun hHeld => ?_)
      clear hK K
      try simp only [Act.put, List.setIfInBounds_toArray, List.set_cons_zero, List.set_cons_succ]
      refine wpAnyH_ready (rs := [7]) (by kernel_rfl) (by simp) (AllReadyH.cons (o := ⟨_, _, _, _, _, _⟩) rfl (fun K hK => ?_) AllReadyH.nil)
      rewrite [if_pos (wanted_free rfl)]
      go_simp
      have n18_0 : RowV w17 g [.string t, .int .i64 (b1 : Int)] := (Sta.r (i := 2) HS17 rfl :)
      (with_reducible refine (hC2 w17 n18_0).mono ?_)
      rintro r w18 ⟨rfl, hA18, hO18⟩
      have HS18 := Sta.put 2 HS17 rfl hA18 (by simp) hO18
      clear hA18 hO18
      go_wp2_with fail
      refine hK.out _ _ trivial (fun hHeld => ?_)
      clear hK K
      try simp only [Act.put, List.setIfInBounds_toArray, List.set_cons_zero, List.set_cons_succ]
      refine wpAnyH_ready (rs := [11]) (by kernel_rfl) (by simp) (AllReadyH.cons (o := ⟨_, _, _, _, _, _⟩) rfl (fun K hK => ?_) AllReadyH.nil)
      rewrite [if_pos (wanted_free rfl)]
      go_simp
      have n19_0 : RowV w18 g [.string t, .int .i64 (b2 : Int)] := (Sta.r (i := 2) HS18 rfl :)
      (with_reducible refine (hC3 w18 n19_0).mono ?_)
      rintro r w19 ⟨rfl, hA19, hO19⟩
      have HS19 := Sta.put 2 HS18 rfl hA19 (by simp) hO19
      clear hA19 hO19
      go_wp2_with fail
      refine hK.out _ _ trivial (fun hHeld => ?_)
      clear hK K
      try simp only [Act.put, List.setIfInBounds_toArray, List.set_cons_zero, List.set_cons_succ]
      refine wpAnyH_take (i := 12) (oi := ⟨_, _, _, _, _, _⟩) (v := .agg #[.int .i64 s, .string rt, .int .i64 x]) rfl (by kernel_rfl) (by kernel_rfl) (by kernel_rfl) (fun _ _ _ h => h) (Or.inl ⟨wanted_free rfl, fun w' hSw => ?_⟩) hHeld ?_
      · go_simp
      try simp only [Act.put, List.setIfInBounds_toArray, List.set_cons_zero, List.set_cons_succ]
      refine wpAnyH_ready (rs := [14]) (by kernel_rfl) (by simp) (AllReadyH.cons (o := ⟨_, _, _, _, _, _⟩) rfl (fun K hK => ?_) AllReadyH.nil)
      rewrite [if_pos (wanted_free rfl)]
      with_reducible refine wp_storeV 35 (.tmp 3) (.tmp 16) (by with_unfolding_all rfl) w3.heap.size [.int .i64 0, .string ⟨#[]⟩, .int .i64 0] [.int .i64 s, .string rt, .int .i64 x] (by with_unfolding_all rfl) (by with_unfolding_all rfl) (Sta.r (i := 0) HS19 (by with_unfolding_all rfl)) 3 Try.sT_implHead (by with_unfolding_all rfl) (by with_unfolding_all rfl) (List.all_eq_true.1 (by with_unfolding_all rfl)) ?_
      intro w20 hA20 hO20
      have HS20 := Sta.put 0 HS19 rfl hA20 (by simp) hO20
      clear hA20 hO20
      refine hK.out _ _ trivial (fun hHeld => ?_)
      clear hK K
      try simp only [Act.put]
      refine wpAnyH_done (by kernel_rfl) ?_ _
      clear hHeld
      go_wp2_with fail
      have HS21 := Sta.drew HS20
      refine wp_region_held_drew (S := fun w' => w'.cell? ⟨w3.heap.size, 0, none⟩ = some (.int .i64 s) ∧ w'.cell? ⟨w3.heap.size, 1, none⟩ = some (.string rt) ∧ w'.cell? ⟨w3.heap.size, 2, none⟩ = some (.int .i64 x)) (by kernel_rfl) ⟨Sta.c (i := 0) HS21 rfl rfl, Sta.c (i := 0) HS21 rfl rfl, Sta.c (i := 0) HS21 rfl rfl⟩ (fun hHeld => ?_)
      generalize w20.drew = w21 at *
      refine wpAnyH_take (i := 0) (oi := ⟨_, _, _, _, _, _⟩) (v := .pointer (some ⟨g, 0, none⟩)) rfl (by kernel_rfl) (by kernel_rfl) (by kernel_rfl) (fun _ _ _ h => h) (Or.inl ⟨wanted_free rfl, fun w' hSw => ?_⟩) hHeld ?_
      · go_simp
      try simp only [Act.put, List.setIfInBounds_toArray, List.set_cons_zero, List.set_cons_succ]
      refine wpAnyH_take (i := 1) (oi := ⟨_, _, _, _, _, _⟩) (v := .pointer (some ⟨g, 0, none⟩)) rfl (by kernel_rfl) (by kernel_rfl) (by kernel_rfl) (fun _ _ _ h => h) (Or.inl ⟨wanted_free rfl, fun w' hSw => ?_⟩) hHeld ?_
      · go_simp
      try simp only [Act.put, List.setIfInBounds_toArray, List.set_cons_zero, List.set_cons_succ]
      refine wpAnyH_take (i := 2) (oi := ⟨_, _, _, _, _, _⟩) (v := .pointer (some ⟨g, 0, none⟩)) rfl (by kernel_rfl) (by kernel_rfl) (by kernel_rfl) (fun _ _ _ h => h) (Or.inl ⟨wanted_free rfl, fun w' hSw => ?_⟩) hHeld ?_
      · go_simp
      try simp only [Act.put, List.setIfInBounds_toArray, List.set_cons_zero, List.set_cons_succ]
      refine wpAnyH_take (i := 3) (oi := ⟨_, _, _, _, _, _⟩) (v := .agg #[.int .i64 s, .string rt, .int .i64 x]) rfl (by kernel_rfl) (by kernel_rfl) (by kernel_rfl) (fun _ _ _ h => h) (Or.inl ⟨wanted_free rfl, fun w' hSw => ?_⟩) hHeld ?_
      · obtain ⟨s0, s1, s2⟩ := hSw
        go_simp
      try simp only [Act.put, List.setIfInBounds_toArray, List.set_cons_zero, List.set_cons_succ]
      refine wpAnyH_ready (rs := [4]) (by kernel_rfl) (by simp) (AllReadyH.cons (o := ⟨_, _, _, _, _, _⟩) rfl (fun K hK => ?_) AllReadyH.nil)
      rewrite [if_pos (wanted_free rfl)]
      go_simp
      (with_reducible refine (hC4 w21).mono ?_)
      rintro r w22 ⟨rfl, hB22⟩
      have HS22 := Sta.call HS21 hB22
      clear hB22
      go_wp2_with fail
      refine hK.out _ _ ⟨Sta.c (i := 0) HS22 rfl rfl, Sta.c (i := 0) HS22 rfl rfl, Sta.c (i := 0) HS22 rfl rfl⟩ (fun hHeld => ?_)
      clear hK K
      try simp only [Act.put, List.setIfInBounds_toArray, List.set_cons_zero, List.set_cons_succ]
      refine wpAnyH_ready (rs := [5]) (by kernel_rfl) (by simp) (AllReadyH.cons (o := ⟨_, _, _, _, _, _⟩) rfl (fun K hK => ?_) AllReadyH.nil)
      rewrite [if_pos (wanted_free rfl)]
      go_simp
      go_wp2_with fail
      refine (hC5 w22).mono ?_
      rintro r w23 ⟨rfl, hO23⟩
      exact ⟨rfl, rfl, (Sta.only HS22 hg).trans hO23⟩
  · as_aux_lemma =>
    rewrite [if_pos (wanted_free rfl)]
    with_reducible refine wp_allocV 35 (by with_unfolding_all rfl) [.int .i64 0, .string ⟨#[]⟩, .int .i64 0] Try.zT_implHead ?_
    intro w24 hA24 hB24
    have HS24 := Sta.new HS2 hA24 hB24 (by simp)
    clear hA24 hB24
    refine hK.out _ _ trivial (fun hHeld => ?_)
    clear hK K
    try simp only [Act.put, List.setIfInBounds_toArray, List.set_cons_zero, List.set_cons_succ]
    refine wpAnyH_ready (rs := [3]) (by kernel_rfl) (by simp) (AllReadyH.cons (o := ⟨_, _, _, _, _, _⟩) rfl (fun K hK => ?_) AllReadyH.nil)
    rewrite [if_pos (wanted_free rfl)]
    go_simp
    have n25_0 : RowV w24 g [.string t, .int .i64 (p : Int)] := (Sta.r (i := 2) HS24 rfl :)
    (with_reducible refine (hC1 w24 n25_0).mono ?_)
    rintro r w25 ⟨rfl, hA25, hO25⟩
    have HS25 := Sta.put 2 HS24 rfl hA25 (by simp) hO25
    clear hA25 hO25
    go_wp2_with fail
    refine hK.out _ _ trivial (fun hHeld => ?_)
    clear hK K
    try simp only [Act.put, List.setIfInBounds_toArray, List.set_cons_zero, List.set_cons_succ]
    refine wpAnyH_ready (rs := [7]) (by kernel_rfl) (by simp) (AllReadyH.cons (o := ⟨_, _, _, _, _, _⟩) rfl (fun K hK => ?_) AllReadyH.nil)
    rewrite [if_pos (wanted_free rfl)]
    go_simp
    have n26_0 : RowV w25 g [.string t, .int .i64 (b1 : Int)] := (Sta.r (i := 2) HS25 rfl :)
    (with_reducible refine (hC2 w25 n26_0).mono ?_)
    rintro r w26 ⟨rfl, hA26, hO26⟩
    have HS26 := Sta.put 2 HS25 rfl hA26 (by simp) hO26
    clear hA26 hO26
    go_wp2_with fail
    refine hK.out _ _ trivial (fun hHeld => ?_)
    clear hK K
    try simp only [Act.put, List.setIfInBounds_toArray, List.set_cons_zero, List.set_cons_succ]
    refine wpAnyH_ready (rs := [11]) (by kernel_rfl) (by simp) (AllReadyH.cons (o := ⟨_, _, _, _, _, _⟩) rfl (fun K hK => ?_) AllReadyH.nil)
    rewrite [if_pos (wanted_free rfl)]
    go_simp
    have n27_0 : RowV w26 g [.string t, .int .i64 (b2 : Int)] := (Sta.r (i := 2) HS26 rfl :)
    (with_reducible refine (hC3 w26 n27_0).mono ?_)
    rintro r w27 ⟨rfl, hA27, hO27⟩
    have HS27 := Sta.put 2 HS26 rfl hA27 (by simp) hO27
    clear hA27 hO27
    go_wp2_with fail
    refine hK.out _ _ trivial (fun hHeld => ?_)
    clear hK K
    try simp only [Act.put, List.setIfInBounds_toArray, List.set_cons_zero, List.set_cons_succ]
    refine wpAnyH_take (i := 12) (oi := ⟨_, _, _, _, _, _⟩) (v := .agg #[.int .i64 s, .string rt, .int .i64 x]) rfl (by kernel_rfl) (by kernel_rfl) (by kernel_rfl) (fun _ _ _ h => h) (Or.inl ⟨wanted_free rfl, fun w' hSw => ?_⟩) hHeld ?_
    · go_simp
    try simp only [Act.put, List.setIfInBounds_toArray, List.set_cons_zero, List.set_cons_succ]
    refine wpAnyH_ready (rs := [14]) (by kernel_rfl) (by simp) (AllReadyH.cons (o := ⟨_, _, _, _, _, _⟩) rfl (fun K hK => ?_) AllReadyH.nil)
    rewrite [if_pos (wanted_free rfl)]
    with_reducible refine wp_storeV 35 (.tmp 3) (.tmp 16) (by with_unfolding_all rfl) w2.heap.size [.int .i64 0, .string ⟨#[]⟩, .int .i64 0] [.int .i64 s, .string rt, .int .i64 x] (by with_unfolding_all rfl) (by with_unfolding_all rfl) (Sta.r (i := 0) HS27 (by with_unfolding_all rfl)) 3 Try.sT_implHead (by with_unfolding_all rfl) (by with_unfolding_all rfl) (List.all_eq_true.1 (by with_unfolding_all rfl)) ?_
    intro w28 hA28 hO28
    have HS28 := Sta.put 0 HS27 rfl hA28 (by simp) hO28
    clear hA28 hO28
    refine hK.out _ _ trivial (fun hHeld => ?_)
    clear hK K
    try simp only [Act.put]
    refine wpAnyH_done (by kernel_rfl) ?_ _
    clear hHeld
    go_wp2_with fail
    have HS29 := Sta.drew HS28
    refine wp_region_held_drew (S := fun w' => w'.cell? ⟨w2.heap.size, 0, none⟩ = some (.int .i64 s) ∧ w'.cell? ⟨w2.heap.size, 1, none⟩ = some (.string rt) ∧ w'.cell? ⟨w2.heap.size, 2, none⟩ = some (.int .i64 x)) (by kernel_rfl) ⟨Sta.c (i := 0) HS29 rfl rfl, Sta.c (i := 0) HS29 rfl rfl, Sta.c (i := 0) HS29 rfl rfl⟩ (fun hHeld => ?_)
    generalize w28.drew = w29 at *
    refine wpAnyH_take (i := 0) (oi := ⟨_, _, _, _, _, _⟩) (v := .pointer (some ⟨g, 0, none⟩)) rfl (by kernel_rfl) (by kernel_rfl) (by kernel_rfl) (fun _ _ _ h => h) (Or.inl ⟨wanted_free rfl, fun w' hSw => ?_⟩) hHeld ?_
    · go_simp
    try simp only [Act.put, List.setIfInBounds_toArray, List.set_cons_zero, List.set_cons_succ]
    refine wpAnyH_take (i := 1) (oi := ⟨_, _, _, _, _, _⟩) (v := .pointer (some ⟨g, 0, none⟩)) rfl (by kernel_rfl) (by kernel_rfl) (by kernel_rfl) (fun _ _ _ h => h) (Or.inl ⟨wanted_free rfl, fun w' hSw => ?_⟩) hHeld ?_
    · go_simp
    try simp only [Act.put, List.setIfInBounds_toArray, List.set_cons_zero, List.set_cons_succ]
    refine wpAnyH_take (i := 2) (oi := ⟨_, _, _, _, _, _⟩) (v := .pointer (some ⟨g, 0, none⟩)) rfl (by kernel_rfl) (by kernel_rfl) (by kernel_rfl) (fun _ _ _ h => h) (Or.inl ⟨wanted_free rfl, fun w' hSw => ?_⟩) hHeld ?_
    · go_simp
    try simp only [Act.put, List.setIfInBounds_toArray, List.set_cons_zero, List.set_cons_succ]
    refine wpAnyH_take (i := 3) (oi := ⟨_, _, _, _, _, _⟩) (v := .agg #[.int .i64 s, .string rt, .int .i64 x]) rfl (by kernel_rfl) (by kernel_rfl) (by kernel_rfl) (fun _ _ _ h => h) (Or.inl ⟨wanted_free rfl, fun w' hSw => ?_⟩) hHeld ?_
    · obtain ⟨s0, s1, s2⟩ := hSw
      go_simp
    try simp only [Act.put, List.setIfInBounds_toArray, List.set_cons_zero, List.set_cons_succ]
    refine wpAnyH_ready (rs := [4]) (by kernel_rfl) (by simp) (AllReadyH.cons (o := ⟨_, _, _, _, _, _⟩) rfl (fun K hK => ?_) AllReadyH.nil)
    rewrite [if_pos (wanted_free rfl)]
    go_simp
    (with_reducible refine (hC4 w29).mono ?_)
    rintro r w30 ⟨rfl, hB30⟩
    have HS30 := Sta.call HS29 hB30
    clear hB30
    go_wp2_with fail
    refine hK.out _ _ ⟨Sta.c (i := 0) HS30 rfl rfl, Sta.c (i := 0) HS30 rfl rfl, Sta.c (i := 0) HS30 rfl rfl⟩ (fun hHeld => ?_)
    clear hK K
    try simp only [Act.put, List.setIfInBounds_toArray, List.set_cons_zero, List.set_cons_succ]
    refine wpAnyH_ready (rs := [5]) (by kernel_rfl) (by simp) (AllReadyH.cons (o := ⟨_, _, _, _, _, _⟩) rfl (fun K hK => ?_) AllReadyH.nil)
    rewrite [if_pos (wanted_free rfl)]
    go_simp
    go_wp2_with fail
    refine (hC5 w30).mono ?_
    rintro r w31 ⟨rfl, hO31⟩
    exact ⟨rfl, rfl, (Sta.only HS30 hg).trans hO31⟩
set_option maxRecDepth 100000 in
set_option maxHeartbeats 4000000 in
theorem hdY (g p b1 b2 b3 : Nat) (t : ByteArray) (s : Int) (rt : ByteArray) (x : Int) (w : World) (hs : t.size ≤ maxLen) (hl1 : p ≤ t.size) (hn1 : numO t p = some (s, b1)) (hl2 : b1 ≤ t.size) (hn2 : bytesO t b1 32 = some (rt, b2)) (hl3 : b2 ≤ t.size) (hn3 : numO t b2 = some (x, b3)) (hh : headB s rt x = true) (h : RowV w g (cuv t p)) :
    Calls Try.prog 75 #[.pointer (some ⟨g, 0, none⟩)] w fun e w' => e = .returned (.agg #[.int .i64 s, .string rt, .int .i64 x]) ∧ RowV w' g (cuv t b3) ∧ Only g w w' := by
  have hg : g < w.heap.size := h.lt (cuv_ne _ _)
  have hC1 : ∀ w0, (RowV w0 g [.string t, .int .i64 (p : Int)]) → Calls Try.prog 111 #[.pointer (some ⟨g, 0, none⟩)] w0 fun r w' => r = .returned (.int .i64 s) ∧ RowV w' g [.string t, .int .i64 (b1 : Int)] ∧ Only g w0 w' := fun w0 n0 => numYes g p b1 t s w0 hs ⟨hn1, hl1⟩ n0
  have hC2 : ∀ w0, (RowV w0 g [.string t, .int .i64 (b1 : Int)]) → Calls Try.prog 123 #[.pointer (some ⟨g, 0, none⟩), .int .i64 32] w0 fun r w' => r = .returned (.string rt) ∧ RowV w' g [.string t, .int .i64 (b2 : Int)] ∧ Only g w0 w' := fun w0 n0 => by have h5 := bytesO_yes hn2; rw [h5.1]; exact bytesYes g b1 32 b2 t w0 hs h5.2.1 h5.2.2 n0
  have hC3 : ∀ w0, (RowV w0 g [.string t, .int .i64 (b2 : Int)]) → Calls Try.prog 111 #[.pointer (some ⟨g, 0, none⟩)] w0 fun r w' => r = .returned (.int .i64 x) ∧ RowV w' g [.string t, .int .i64 (b3 : Int)] ∧ Only g w0 w' := fun w0 n0 => numYes g b2 b3 t x w0 hs ⟨hn3, hl3⟩ n0
  have hC4 : ∀ w0, Calls Try.prog 71 #[.agg #[.int .i64 s, .string rt, .int .i64 x]] w0 fun r w' => r = .returned (.bool true) ∧ Below w0.heap.size w0 w' := fun w0 => by rw [← hh]; exact implHead s rt x w0 (by have := (bytesO_size hn2).1; unfold maxLen; omega)
  have hC5 : ∀ w0, Calls Try.prog 110 #[.pointer (some ⟨g, 0, none⟩), .bool true] w0 fun r w' => r = .returned (.tuple #[]) ∧ w0 = w' := fun w0 => mustYes _ w0
  have HS0 : Hid (Sta [g] w [(g, [.string t, .int .i64 (p : Int)])] [⟨fun k => k < w.heap.size ∧ k ≠ g, fun _ => True⟩] w) := Sta.recv h (cuv_ne _ _) (fun _ => True) (fun _ _ => trivial)
  clear h hs hl1 hn1 hl2 hn2 hl3 hn3 hh
  go_enter Try.func75, Try.ntmps75
  go_wp2_with (first
    | ((with_reducible refine wpList_allocV (w := w) (by with_unfolding_all rfl) 35 (by with_unfolding_all rfl) [.int .i64 0, .string ⟨#[]⟩, .int .i64 0] Try.zT_implHead ?_); intro w1 hA1 hB1 hS1; clear hS1; have HS1 := Sta.new HS0 hA1 hB1 (by simp); clear hA1 hB1))
  have HS2 := Sta.drew HS1
  refine wp_region_held_drew (S := fun w' => True) (by kernel_rfl) trivial (fun hHeld => ?_)
  generalize w1.drew = w2 at *
  refine wpAnyH_take (i := 0) (oi := ⟨_, _, _, _, _, _⟩) (v := .pointer (some ⟨g, 0, none⟩)) rfl (by kernel_rfl) (by kernel_rfl) (by kernel_rfl) (fun _ _ _ h => h) (Or.inl ⟨wanted_free rfl, fun w' hSw => ?_⟩) hHeld ?_
  · go_simp
  try simp only [Act.put, List.setIfInBounds_toArray, List.set_cons_zero, List.set_cons_succ]
  refine wpAnyH_take (i := 1) (oi := ⟨_, _, _, _, _, _⟩) (v := .pointer (some ⟨g, 0, none⟩)) rfl (by kernel_rfl) (by kernel_rfl) (by kernel_rfl) (fun _ _ _ h => h) (Or.inl ⟨wanted_free rfl, fun w' hSw => ?_⟩) hHeld ?_
  · go_simp
  try simp only [Act.put, List.setIfInBounds_toArray, List.set_cons_zero, List.set_cons_succ]
  refine wpAnyH_take (i := 2) (oi := ⟨_, _, _, _, _, _⟩) (v := .pointer (some ⟨g, 0, none⟩)) rfl (by kernel_rfl) (by kernel_rfl) (by kernel_rfl) (fun _ _ _ h => h) (Or.inl ⟨wanted_free rfl, fun w' hSw => ?_⟩) hHeld ?_
  · go_simp
  try simp only [Act.put, List.setIfInBounds_toArray, List.set_cons_zero, List.set_cons_succ]
  refine wpAnyH_take (i := 4) (oi := ⟨_, _, _, _, _, _⟩) (v := .pointer (some ⟨g, 0, none⟩)) rfl (by kernel_rfl) (by kernel_rfl) (by kernel_rfl) (fun _ _ _ h => h) (Or.inl ⟨wanted_free rfl, fun w' hSw => ?_⟩) hHeld ?_
  · go_simp
  try simp only [Act.put, List.setIfInBounds_toArray, List.set_cons_zero, List.set_cons_succ]
  refine wpAnyH_take (i := 5) (oi := ⟨_, _, _, _, _, _⟩) (v := .pointer (some ⟨g, 0, none⟩)) rfl (by kernel_rfl) (by kernel_rfl) (by kernel_rfl) (fun _ _ _ h => h) (Or.inl ⟨wanted_free rfl, fun w' hSw => ?_⟩) hHeld ?_
  · go_simp
  try simp only [Act.put, List.setIfInBounds_toArray, List.set_cons_zero, List.set_cons_succ]
  refine wpAnyH_take (i := 6) (oi := ⟨_, _, _, _, _, _⟩) (v := .pointer (some ⟨g, 0, none⟩)) rfl (by kernel_rfl) (by kernel_rfl) (by kernel_rfl) (fun _ _ _ h => h) (Or.inl ⟨wanted_free rfl, fun w' hSw => ?_⟩) hHeld ?_
  · go_simp
  try simp only [Act.put, List.setIfInBounds_toArray, List.set_cons_zero, List.set_cons_succ]
  refine wpAnyH_take (i := 8) (oi := ⟨_, _, _, _, _, _⟩) (v := .pointer (some ⟨g, 0, none⟩)) rfl (by kernel_rfl) (by kernel_rfl) (by kernel_rfl) (fun _ _ _ h => h) (Or.inl ⟨wanted_free rfl, fun w' hSw => ?_⟩) hHeld ?_
  · go_simp
  try simp only [Act.put, List.setIfInBounds_toArray, List.set_cons_zero, List.set_cons_succ]
  refine wpAnyH_take (i := 9) (oi := ⟨_, _, _, _, _, _⟩) (v := .pointer (some ⟨g, 0, none⟩)) rfl (by kernel_rfl) (by kernel_rfl) (by kernel_rfl) (fun _ _ _ h => h) (Or.inl ⟨wanted_free rfl, fun w' hSw => ?_⟩) hHeld ?_
  · go_simp
  try simp only [Act.put, List.setIfInBounds_toArray, List.set_cons_zero, List.set_cons_succ]
  refine wpAnyH_take (i := 10) (oi := ⟨_, _, _, _, _, _⟩) (v := .pointer (some ⟨g, 0, none⟩)) rfl (by kernel_rfl) (by kernel_rfl) (by kernel_rfl) (fun _ _ _ h => h) (Or.inl ⟨wanted_free rfl, fun w' hSw => ?_⟩) hHeld ?_
  · go_simp
  try simp only [Act.put, List.setIfInBounds_toArray, List.set_cons_zero, List.set_cons_succ]
  refine wpAnyH_ready (rs := [3, 13]) (by kernel_rfl) (by simp) (AllReadyH.cons (o := ⟨_, _, _, _, _, _⟩) rfl (fun K hK => ?_) (AllReadyH.cons (o := ⟨_, _, _, _, _, _⟩) rfl (fun K hK => ?_) AllReadyH.nil))
  · as_aux_lemma =>
    rewrite [if_pos (wanted_free rfl)]
    go_simp
    have n3_0 : RowV w2 g [.string t, .int .i64 (p : Int)] := (Sta.r (i := 1) HS2 rfl :)
    (with_reducible refine (hC1 w2 n3_0).mono ?_)
    rintro r w3 ⟨rfl, hA3, hO3⟩
    have HS3 := Sta.put 1 HS2 rfl hA3 (by simp) hO3
    clear hA3 hO3
    go_wp2_with fail
    refine hK.out _ _ trivial (fun hHeld => ?_)
    clear hK K
    try simp only [Act.put, List.setIfInBounds_toArray, List.set_cons_zero, List.set_cons_succ]
    refine wpAnyH_ready (rs := [7, 13]) (by kernel_rfl) (by simp) (AllReadyH.cons (o := ⟨_, _, _, _, _, _⟩) rfl (fun K hK => ?_) (AllReadyH.cons (o := ⟨_, _, _, _, _, _⟩) rfl (fun K hK => ?_) AllReadyH.nil))
    · as_aux_lemma =>
      rewrite [if_pos (wanted_free rfl)]
      go_simp
      have n4_0 : RowV w3 g [.string t, .int .i64 (b1 : Int)] := (Sta.r (i := 1) HS3 rfl :)
      (with_reducible refine (hC2 w3 n4_0).mono ?_)
      rintro r w4 ⟨rfl, hA4, hO4⟩
      have HS4 := Sta.put 1 HS3 rfl hA4 (by simp) hO4
      clear hA4 hO4
      go_wp2_with fail
      refine hK.out _ _ trivial (fun hHeld => ?_)
      clear hK K
      try simp only [Act.put, List.setIfInBounds_toArray, List.set_cons_zero, List.set_cons_succ]
      refine wpAnyH_ready (rs := [11, 13]) (by kernel_rfl) (by simp) (AllReadyH.cons (o := ⟨_, _, _, _, _, _⟩) rfl (fun K hK => ?_) (AllReadyH.cons (o := ⟨_, _, _, _, _, _⟩) rfl (fun K hK => ?_) AllReadyH.nil))
      · as_aux_lemma =>
        rewrite [if_pos (wanted_free rfl)]
        go_simp
        have n5_0 : RowV w4 g [.string t, .int .i64 (b2 : Int)] := (Sta.r (i := 1) HS4 rfl :)
        (with_reducible refine (hC3 w4 n5_0).mono ?_)
        rintro r w5 ⟨rfl, hA5, hO5⟩
        have HS5 := Sta.put 1 HS4 rfl hA5 (by simp) hO5
        clear hA5 hO5
        go_wp2_with fail
        refine hK.out _ _ trivial (fun hHeld => ?_)
        clear hK K
        try simp only [Act.put, List.setIfInBounds_toArray, List.set_cons_zero, List.set_cons_succ]
        refine wpAnyH_take (i := 12) (oi := ⟨_, _, _, _, _, _⟩) (v := .agg #[.int .i64 s, .string rt, .int .i64 x]) rfl (by kernel_rfl) (by kernel_rfl) (by kernel_rfl) (fun _ _ _ h => h) (Or.inl ⟨wanted_free rfl, fun w' hSw => ?_⟩) hHeld ?_
        · go_simp
        try simp only [Act.put, List.setIfInBounds_toArray, List.set_cons_zero, List.set_cons_succ]
        refine wpAnyH_ready (rs := [13]) (by kernel_rfl) (by simp) (AllReadyH.cons (o := ⟨_, _, _, _, _, _⟩) rfl (fun K hK => ?_) AllReadyH.nil)
        rewrite [if_pos (wanted_free rfl)]
        with_reducible refine wp_allocV 35 (by with_unfolding_all rfl) [.int .i64 0, .string ⟨#[]⟩, .int .i64 0] Try.zT_implHead ?_
        intro w6 hA6 hB6
        have HS6 := Sta.new HS5 hA6 hB6 (by simp)
        clear hA6 hB6
        refine hK.out _ _ trivial (fun hHeld => ?_)
        clear hK K
        try simp only [Act.put, List.setIfInBounds_toArray, List.set_cons_zero, List.set_cons_succ]
        refine wpAnyH_ready (rs := [14]) (by kernel_rfl) (by simp) (AllReadyH.cons (o := ⟨_, _, _, _, _, _⟩) rfl (fun K hK => ?_) AllReadyH.nil)
        rewrite [if_pos (wanted_free rfl)]
        with_reducible refine wp_storeV 35 (.tmp 3) (.tmp 16) (by with_unfolding_all rfl) w5.heap.size [.int .i64 0, .string ⟨#[]⟩, .int .i64 0] [.int .i64 s, .string rt, .int .i64 x] (by with_unfolding_all rfl) (by with_unfolding_all rfl) (Sta.r (i := 0) HS6 (by with_unfolding_all rfl)) 3 Try.sT_implHead (by with_unfolding_all rfl) (by with_unfolding_all rfl) (List.all_eq_true.1 (by with_unfolding_all rfl)) ?_
        intro w7 hA7 hO7
        have HS7 := Sta.put 0 HS6 rfl hA7 (by simp) hO7
        clear hA7 hO7
        refine hK.out _ _ trivial (fun hHeld => ?_)
        clear hK K
        try simp only [Act.put]
        refine wpAnyH_done (by kernel_rfl) ?_ _
        clear hHeld
        go_wp2_with fail
        have HS8 := Sta.drew HS7
        refine wp_region_held_drew (S := fun w' => w'.cell? ⟨w5.heap.size, 0, none⟩ = some (.int .i64 s) ∧ w'.cell? ⟨w5.heap.size, 1, none⟩ = some (.string rt) ∧ w'.cell? ⟨w5.heap.size, 2, none⟩ = some (.int .i64 x)) (by kernel_rfl) ⟨Sta.c (i := 0) HS8 rfl rfl, Sta.c (i := 0) HS8 rfl rfl, Sta.c (i := 0) HS8 rfl rfl⟩ (fun hHeld => ?_)
        generalize w7.drew = w8 at *
        refine wpAnyH_take (i := 0) (oi := ⟨_, _, _, _, _, _⟩) (v := .pointer (some ⟨g, 0, none⟩)) rfl (by kernel_rfl) (by kernel_rfl) (by kernel_rfl) (fun _ _ _ h => h) (Or.inl ⟨wanted_free rfl, fun w' hSw => ?_⟩) hHeld ?_
        · go_simp
        try simp only [Act.put, List.setIfInBounds_toArray, List.set_cons_zero, List.set_cons_succ]
        refine wpAnyH_take (i := 1) (oi := ⟨_, _, _, _, _, _⟩) (v := .pointer (some ⟨g, 0, none⟩)) rfl (by kernel_rfl) (by kernel_rfl) (by kernel_rfl) (fun _ _ _ h => h) (Or.inl ⟨wanted_free rfl, fun w' hSw => ?_⟩) hHeld ?_
        · go_simp
        try simp only [Act.put, List.setIfInBounds_toArray, List.set_cons_zero, List.set_cons_succ]
        refine wpAnyH_take (i := 2) (oi := ⟨_, _, _, _, _, _⟩) (v := .pointer (some ⟨g, 0, none⟩)) rfl (by kernel_rfl) (by kernel_rfl) (by kernel_rfl) (fun _ _ _ h => h) (Or.inl ⟨wanted_free rfl, fun w' hSw => ?_⟩) hHeld ?_
        · go_simp
        try simp only [Act.put, List.setIfInBounds_toArray, List.set_cons_zero, List.set_cons_succ]
        refine wpAnyH_take (i := 3) (oi := ⟨_, _, _, _, _, _⟩) (v := .agg #[.int .i64 s, .string rt, .int .i64 x]) rfl (by kernel_rfl) (by kernel_rfl) (by kernel_rfl) (fun _ _ _ h => h) (Or.inl ⟨wanted_free rfl, fun w' hSw => ?_⟩) hHeld ?_
        · obtain ⟨s0, s1, s2⟩ := hSw
          go_simp
        try simp only [Act.put, List.setIfInBounds_toArray, List.set_cons_zero, List.set_cons_succ]
        refine wpAnyH_ready (rs := [4]) (by kernel_rfl) (by simp) (AllReadyH.cons (o := ⟨_, _, _, _, _, _⟩) rfl (fun K hK => ?_) AllReadyH.nil)
        rewrite [if_pos (wanted_free rfl)]
        go_simp
        (with_reducible refine (hC4 w8).mono ?_)
        rintro r w9 ⟨rfl, hB9⟩
        have HS9 := Sta.call HS8 hB9
        clear hB9
        go_wp2_with fail
        refine hK.out _ _ ⟨Sta.c (i := 0) HS9 rfl rfl, Sta.c (i := 0) HS9 rfl rfl, Sta.c (i := 0) HS9 rfl rfl⟩ (fun hHeld => ?_)
        clear hK K
        try simp only [Act.put, List.setIfInBounds_toArray, List.set_cons_zero, List.set_cons_succ]
        refine wpAnyH_ready (rs := [5]) (by kernel_rfl) (by simp) (AllReadyH.cons (o := ⟨_, _, _, _, _, _⟩) rfl (fun K hK => ?_) AllReadyH.nil)
        rewrite [if_pos (wanted_free rfl)]
        go_simp
        (with_reducible refine (hC5 w9).mono ?_)
        rintro r w' ⟨rfl, rfl⟩
        go_wp2_with fail
        refine hK.out _ _ ⟨Sta.c (i := 0) HS9 rfl rfl, Sta.c (i := 0) HS9 rfl rfl, Sta.c (i := 0) HS9 rfl rfl⟩ (fun hHeld => ?_)
        clear hK K
        try simp only [Act.put, List.setIfInBounds_toArray, List.set_cons_zero, List.set_cons_succ]
        refine wpAnyH_done (by kernel_rfl) ?_ _
        clear hHeld
        go_wp2_with (first
          | ((with_reducible refine wpList_loadV (w := w9) (by with_unfolding_all rfl) 35 (.tmp 3) (by with_unfolding_all rfl) w5.heap.size [.int .i64 s, .string rt, .int .i64 x] (by with_unfolding_all rfl) (Sta.r (i := 0) HS9 (by with_unfolding_all rfl)) Try.uT_implHead 3 Try.sT_implHead (by with_unfolding_all rfl) ?_))
          | ((with_reducible refine wpList_storeS (w := w9) (by with_unfolding_all rfl) 35 (.tmp 2) (.tmp 23) (by with_unfolding_all rfl) w.heap.size [.int .i64 0, .string ⟨#[]⟩, .int .i64 0] [.int .i64 s, .string rt, .int .i64 x] (by with_unfolding_all rfl) (by with_unfolding_all rfl) (Sta.r (i := 1) HS9 (by with_unfolding_all rfl)) 3 Try.sT_implHead (by with_unfolding_all rfl) (by with_unfolding_all rfl) (by with_unfolding_all rfl) ?_); intro w11 hA11 hO11; have HS11 := Sta.put 1 HS9 rfl hA11 (by simp) hO11; clear hA11 hO11))
        exact bodyPost_ret (results_V (t := 35) rfl _ w.heap.size [.int .i64 s, .string rt, .int .i64 x] rfl (Sta.r (i := 1) HS11 (by with_unfolding_all rfl)) Try.uT_implHead 3 Try.sT_implHead rfl) rfl ⟨rfl, Sta.r (i := 2) HS11 rfl, Sta.only HS11 hg⟩
      · as_aux_lemma =>
        rewrite [if_pos (wanted_free rfl)]
        with_reducible refine wp_allocV 35 (by with_unfolding_all rfl) [.int .i64 0, .string ⟨#[]⟩, .int .i64 0] Try.zT_implHead ?_
        intro w12 hA12 hB12
        have HS12 := Sta.new HS4 hA12 hB12 (by simp)
        clear hA12 hB12
        refine hK.out _ _ trivial (fun hHeld => ?_)
        clear hK K
        try simp only [Act.put, List.setIfInBounds_toArray, List.set_cons_zero, List.set_cons_succ]
        refine wpAnyH_ready (rs := [11]) (by kernel_rfl) (by simp) (AllReadyH.cons (o := ⟨_, _, _, _, _, _⟩) rfl (fun K hK => ?_) AllReadyH.nil)
        rewrite [if_pos (wanted_free rfl)]
        go_simp
        have n13_0 : RowV w12 g [.string t, .int .i64 (b2 : Int)] := (Sta.r (i := 2) HS12 rfl :)
        (with_reducible refine (hC3 w12 n13_0).mono ?_)
        rintro r w13 ⟨rfl, hA13, hO13⟩
        have HS13 := Sta.put 2 HS12 rfl hA13 (by simp) hO13
        clear hA13 hO13
        go_wp2_with fail
        refine hK.out _ _ trivial (fun hHeld => ?_)
        clear hK K
        try simp only [Act.put, List.setIfInBounds_toArray, List.set_cons_zero, List.set_cons_succ]
        refine wpAnyH_take (i := 12) (oi := ⟨_, _, _, _, _, _⟩) (v := .agg #[.int .i64 s, .string rt, .int .i64 x]) rfl (by kernel_rfl) (by kernel_rfl) (by kernel_rfl) (fun _ _ _ h => h) (Or.inl ⟨wanted_free rfl, fun w' hSw => ?_⟩) hHeld ?_
        · go_simp
        try simp only [Act.put, List.setIfInBounds_toArray, List.set_cons_zero, List.set_cons_succ]
        refine wpAnyH_ready (rs := [14]) (by kernel_rfl) (by simp) (AllReadyH.cons (o := ⟨_, _, _, _, _, _⟩) rfl (fun K hK => ?_) AllReadyH.nil)
        rewrite [if_pos (wanted_free rfl)]
        with_reducible refine wp_storeV 35 (.tmp 3) (.tmp 16) (by with_unfolding_all rfl) w4.heap.size [.int .i64 0, .string ⟨#[]⟩, .int .i64 0] [.int .i64 s, .string rt, .int .i64 x] (by with_unfolding_all rfl) (by with_unfolding_all rfl) (Sta.r (i := 0) HS13 (by with_unfolding_all rfl)) 3 Try.sT_implHead (by with_unfolding_all rfl) (by with_unfolding_all rfl) (List.all_eq_true.1 (by with_unfolding_all rfl)) ?_
        intro w14 hA14 hO14
        have HS14 := Sta.put 0 HS13 rfl hA14 (by simp) hO14
        clear hA14 hO14
        refine hK.out _ _ trivial (fun hHeld => ?_)
        clear hK K
        try simp only [Act.put]
        refine wpAnyH_done (by kernel_rfl) ?_ _
        clear hHeld
        go_wp2_with fail
        have HS15 := Sta.drew HS14
        refine wp_region_held_drew (S := fun w' => w'.cell? ⟨w4.heap.size, 0, none⟩ = some (.int .i64 s) ∧ w'.cell? ⟨w4.heap.size, 1, none⟩ = some (.string rt) ∧ w'.cell? ⟨w4.heap.size, 2, none⟩ = some (.int .i64 x)) (by kernel_rfl) ⟨Sta.c (i := 0) HS15 rfl rfl, Sta.c (i := 0) HS15 rfl rfl, Sta.c (i := 0) HS15 rfl rfl⟩ (fun hHeld => ?_)
        generalize w14.drew = w15 at *
        refine wpAnyH_take (i := 0) (oi := ⟨_, _, _, _, _, _⟩) (v := .pointer (some ⟨g, 0, none⟩)) rfl (by kernel_rfl) (by kernel_rfl) (by kernel_rfl) (fun _ _ _ h => h) (Or.inl ⟨wanted_free rfl, fun w' hSw => ?_⟩) hHeld ?_
        · go_simp
        try simp only [Act.put, List.setIfInBounds_toArray, List.set_cons_zero, List.set_cons_succ]
        refine wpAnyH_take (i := 1) (oi := ⟨_, _, _, _, _, _⟩) (v := .pointer (some ⟨g, 0, none⟩)) rfl (by kernel_rfl) (by kernel_rfl) (by kernel_rfl) (fun _ _ _ h => h) (Or.inl ⟨wanted_free rfl, fun w' hSw => ?_⟩) hHeld ?_
        · go_simp
        try simp only [Act.put, List.setIfInBounds_toArray, List.set_cons_zero, List.set_cons_succ]
        refine wpAnyH_take (i := 2) (oi := ⟨_, _, _, _, _, _⟩) (v := .pointer (some ⟨g, 0, none⟩)) rfl (by kernel_rfl) (by kernel_rfl) (by kernel_rfl) (fun _ _ _ h => h) (Or.inl ⟨wanted_free rfl, fun w' hSw => ?_⟩) hHeld ?_
        · go_simp
        try simp only [Act.put, List.setIfInBounds_toArray, List.set_cons_zero, List.set_cons_succ]
        refine wpAnyH_take (i := 3) (oi := ⟨_, _, _, _, _, _⟩) (v := .agg #[.int .i64 s, .string rt, .int .i64 x]) rfl (by kernel_rfl) (by kernel_rfl) (by kernel_rfl) (fun _ _ _ h => h) (Or.inl ⟨wanted_free rfl, fun w' hSw => ?_⟩) hHeld ?_
        · obtain ⟨s0, s1, s2⟩ := hSw
          go_simp
        try simp only [Act.put, List.setIfInBounds_toArray, List.set_cons_zero, List.set_cons_succ]
        refine wpAnyH_ready (rs := [4]) (by kernel_rfl) (by simp) (AllReadyH.cons (o := ⟨_, _, _, _, _, _⟩) rfl (fun K hK => ?_) AllReadyH.nil)
        rewrite [if_pos (wanted_free rfl)]
        go_simp
        (with_reducible refine (hC4 w15).mono ?_)
        rintro r w16 ⟨rfl, hB16⟩
        have HS16 := Sta.call HS15 hB16
        clear hB16
        go_wp2_with fail
        refine hK.out _ _ ⟨Sta.c (i := 0) HS16 rfl rfl, Sta.c (i := 0) HS16 rfl rfl, Sta.c (i := 0) HS16 rfl rfl⟩ (fun hHeld => ?_)
        clear hK K
        try simp only [Act.put, List.setIfInBounds_toArray, List.set_cons_zero, List.set_cons_succ]
        refine wpAnyH_ready (rs := [5]) (by kernel_rfl) (by simp) (AllReadyH.cons (o := ⟨_, _, _, _, _, _⟩) rfl (fun K hK => ?_) AllReadyH.nil)
        rewrite [if_pos (wanted_free rfl)]
        go_simp
        (with_reducible refine (hC5 w16).mono ?_)
        rintro r w' ⟨rfl, rfl⟩
        go_wp2_with fail
        refine hK.out _ _ ⟨Sta.c (i := 0) HS16 rfl rfl, Sta.c (i := 0) HS16 rfl rfl, Sta.c (i := 0) HS16 rfl rfl⟩ (fun hHeld => ?_)
        clear hK K
        try simp only [Act.put, List.setIfInBounds_toArray, List.set_cons_zero, List.set_cons_succ]
        refine wpAnyH_done (by kernel_rfl) ?_ _
        clear hHeld
        go_wp2_with (first
          | ((with_reducible refine wpList_loadV (w := w16) (by with_unfolding_all rfl) 35 (.tmp 3) (by with_unfolding_all rfl) w4.heap.size [.int .i64 s, .string rt, .int .i64 x] (by with_unfolding_all rfl) (Sta.r (i := 0) HS16 (by with_unfolding_all rfl)) Try.uT_implHead 3 Try.sT_implHead (by with_unfolding_all rfl) ?_))
          | ((with_reducible refine wpList_storeS (w := w16) (by with_unfolding_all rfl) 35 (.tmp 2) (.tmp 23) (by with_unfolding_all rfl) w.heap.size [.int .i64 0, .string ⟨#[]⟩, .int .i64 0] [.int .i64 s, .string rt, .int .i64 x] (by with_unfolding_all rfl) (by with_unfolding_all rfl) (Sta.r (i := 1) HS16 (by with_unfolding_all rfl)) 3 Try.sT_implHead (by with_unfolding_all rfl) (by with_unfolding_all rfl) (by with_unfolding_all rfl) ?_); intro w18 hA18 hO18; have HS18 := Sta.put 1 HS16 rfl hA18 (by simp) hO18; clear hA18 hO18))
        exact bodyPost_ret (results_V (t := 35) rfl _ w.heap.size [.int .i64 s, .string rt, .int .i64 x] rfl (Sta.r (i := 1) HS18 (by with_unfolding_all rfl)) Try.uT_implHead 3 Try.sT_implHead rfl) rfl ⟨rfl, Sta.r (i := 2) HS18 rfl, Sta.only HS18 hg⟩
    · as_aux_lemma =>
      rewrite [if_pos (wanted_free rfl)]
      with_reducible refine wp_allocV 35 (by with_unfolding_all rfl) [.int .i64 0, .string ⟨#[]⟩, .int .i64 0] Try.zT_implHead ?_
      intro w19 hA19 hB19
      have HS19 := Sta.new HS3 hA19 hB19 (by simp)
      clear hA19 hB19
      refine hK.out _ _ trivial (fun hHeld => ?_)
      clear hK K
      try simp only [Act.put, List.setIfInBounds_toArray, List.set_cons_zero, List.set_cons_succ]
      refine wpAnyH_ready (rs := [7]) (by kernel_rfl) (by simp) (AllReadyH.cons (o := ⟨_, _, _, _, _, _⟩) rfl (fun K hK => ?_) AllReadyH.nil)
      rewrite [if_pos (wanted_free rfl)]
      go_simp
      have n20_0 : RowV w19 g [.string t, .int .i64 (b1 : Int)] := (Sta.r (i := 2) HS19 rfl :)
      (with_reducible refine (hC2 w19 n20_0).mono ?_)
      rintro r w20 ⟨rfl, hA20, hO20⟩
      have HS20 := Sta.put 2 HS19 rfl hA20 (by simp) hO20
      clear hA20 hO20
      go_wp2_with fail
      refine hK.out _ _ trivial (fun hHeld => ?_)
      clear hK K
      try simp only [Act.put, List.setIfInBounds_toArray, List.set_cons_zero, List.set_cons_succ]
      refine wpAnyH_ready (rs := [11]) (by kernel_rfl) (by simp) (AllReadyH.cons (o := ⟨_, _, _, _, _, _⟩) rfl (fun K hK => ?_) AllReadyH.nil)
      rewrite [if_pos (wanted_free rfl)]
      go_simp
      have n21_0 : RowV w20 g [.string t, .int .i64 (b2 : Int)] := (Sta.r (i := 2) HS20 rfl :)
      (with_reducible refine (hC3 w20 n21_0).mono ?_)
      rintro r w21 ⟨rfl, hA21, hO21⟩
      have HS21 := Sta.put 2 HS20 rfl hA21 (by simp) hO21
      clear hA21 hO21
      go_wp2_with fail
      refine hK.out _ _ trivial (fun hHeld => ?_)
      clear hK K
      try simp only [Act.put, List.setIfInBounds_toArray, List.set_cons_zero, List.set_cons_succ]
      refine wpAnyH_take (i := 12) (oi := ⟨_, _, _, _, _, _⟩) (v := .agg #[.int .i64 s, .string rt, .int .i64 x]) rfl (by kernel_rfl) (by kernel_rfl) (by kernel_rfl) (fun _ _ _ h => h) (Or.inl ⟨wanted_free rfl, fun w' hSw => ?_⟩) hHeld ?_
      · go_simp
      try simp only [Act.put, List.setIfInBounds_toArray, List.set_cons_zero, List.set_cons_succ]
      refine wpAnyH_ready (rs := [14]) (by kernel_rfl) (by simp) (AllReadyH.cons (o := ⟨_, _, _, _, _, _⟩) rfl (fun K hK => ?_) AllReadyH.nil)
      rewrite [if_pos (wanted_free rfl)]
      with_reducible refine wp_storeV 35 (.tmp 3) (.tmp 16) (by with_unfolding_all rfl) w3.heap.size [.int .i64 0, .string ⟨#[]⟩, .int .i64 0] [.int .i64 s, .string rt, .int .i64 x] (by with_unfolding_all rfl) (by with_unfolding_all rfl) (Sta.r (i := 0) HS21 (by with_unfolding_all rfl)) 3 Try.sT_implHead (by with_unfolding_all rfl) (by with_unfolding_all rfl) (List.all_eq_true.1 (by with_unfolding_all rfl)) ?_
      intro w22 hA22 hO22
      have HS22 := Sta.put 0 HS21 rfl hA22 (by simp) hO22
      clear hA22 hO22
      refine hK.out _ _ trivial (fun hHeld => ?_)
      clear hK K
      try simp only [Act.put]
      refine wpAnyH_done (by kernel_rfl) ?_ _
      clear hHeld
      go_wp2_with fail
      have HS23 := Sta.drew HS22
      refine wp_region_held_drew (S := fun w' => w'.cell? ⟨w3.heap.size, 0, none⟩ = some (.int .i64 s) ∧ w'.cell? ⟨w3.heap.size, 1, none⟩ = some (.string rt) ∧ w'.cell? ⟨w3.heap.size, 2, none⟩ = some (.int .i64 x)) (by kernel_rfl) ⟨Sta.c (i := 0) HS23 rfl rfl, Sta.c (i := 0) HS23 rfl rfl, Sta.c (i := 0) HS23 rfl rfl⟩ (fun hHeld => ?_)
      generalize w22.drew = w23 at *
      refine wpAnyH_take (i := 0) (oi := ⟨_, _, _, _, _, _⟩) (v := .pointer (some ⟨g, 0, none⟩)) rfl (by kernel_rfl) (by kernel_rfl) (by kernel_rfl) (fun _ _ _ h => h) (Or.inl ⟨wanted_free rfl, fun w' hSw => ?_⟩) hHeld ?_
      · go_simp
      try simp only [Act.put, List.setIfInBounds_toArray, List.set_cons_zero, List.set_cons_succ]
      refine wpAnyH_take (i := 1) (oi := ⟨_, _, _, _, _, _⟩) (v := .pointer (some ⟨g, 0, none⟩)) rfl (by kernel_rfl) (by kernel_rfl) (by kernel_rfl) (fun _ _ _ h => h) (Or.inl ⟨wanted_free rfl, fun w' hSw => ?_⟩) hHeld ?_
      · go_simp
      try simp only [Act.put, List.setIfInBounds_toArray, List.set_cons_zero, List.set_cons_succ]
      refine wpAnyH_take (i := 2) (oi := ⟨_, _, _, _, _, _⟩) (v := .pointer (some ⟨g, 0, none⟩)) rfl (by kernel_rfl) (by kernel_rfl) (by kernel_rfl) (fun _ _ _ h => h) (Or.inl ⟨wanted_free rfl, fun w' hSw => ?_⟩) hHeld ?_
      · go_simp
      try simp only [Act.put, List.setIfInBounds_toArray, List.set_cons_zero, List.set_cons_succ]
      refine wpAnyH_take (i := 3) (oi := ⟨_, _, _, _, _, _⟩) (v := .agg #[.int .i64 s, .string rt, .int .i64 x]) rfl (by kernel_rfl) (by kernel_rfl) (by kernel_rfl) (fun _ _ _ h => h) (Or.inl ⟨wanted_free rfl, fun w' hSw => ?_⟩) hHeld ?_
      · obtain ⟨s0, s1, s2⟩ := hSw
        go_simp
      try simp only [Act.put, List.setIfInBounds_toArray, List.set_cons_zero, List.set_cons_succ]
      refine wpAnyH_ready (rs := [4]) (by kernel_rfl) (by simp) (AllReadyH.cons (o := ⟨_, _, _, _, _, _⟩) rfl (fun K hK => ?_) AllReadyH.nil)
      rewrite [if_pos (wanted_free rfl)]
      go_simp
      (with_reducible refine (hC4 w23).mono ?_)
      rintro r w24 ⟨rfl, hB24⟩
      have HS24 := Sta.call HS23 hB24
      clear hB24
      go_wp2_with fail
      refine hK.out _ _ ⟨Sta.c (i := 0) HS24 rfl rfl, Sta.c (i := 0) HS24 rfl rfl, Sta.c (i := 0) HS24 rfl rfl⟩ (fun hHeld => ?_)
      clear hK K
      try simp only [Act.put, List.setIfInBounds_toArray, List.set_cons_zero, List.set_cons_succ]
      refine wpAnyH_ready (rs := [5]) (by kernel_rfl) (by simp) (AllReadyH.cons (o := ⟨_, _, _, _, _, _⟩) rfl (fun K hK => ?_) AllReadyH.nil)
      rewrite [if_pos (wanted_free rfl)]
      go_simp
      (with_reducible refine (hC5 w24).mono ?_)
      rintro r w' ⟨rfl, rfl⟩
      go_wp2_with fail
      refine hK.out _ _ ⟨Sta.c (i := 0) HS24 rfl rfl, Sta.c (i := 0) HS24 rfl rfl, Sta.c (i := 0) HS24 rfl rfl⟩ (fun hHeld => ?_)
      clear hK K
      try simp only [Act.put, List.setIfInBounds_toArray, List.set_cons_zero, List.set_cons_succ]
      refine wpAnyH_done (by kernel_rfl) ?_ _
      clear hHeld
      go_wp2_with (first
        | ((with_reducible refine wpList_loadV (w := w24) (by with_unfolding_all rfl) 35 (.tmp 3) (by with_unfolding_all rfl) w3.heap.size [.int .i64 s, .string rt, .int .i64 x] (by with_unfolding_all rfl) (Sta.r (i := 0) HS24 (by with_unfolding_all rfl)) Try.uT_implHead 3 Try.sT_implHead (by with_unfolding_all rfl) ?_))
        | ((with_reducible refine wpList_storeS (w := w24) (by with_unfolding_all rfl) 35 (.tmp 2) (.tmp 23) (by with_unfolding_all rfl) w.heap.size [.int .i64 0, .string ⟨#[]⟩, .int .i64 0] [.int .i64 s, .string rt, .int .i64 x] (by with_unfolding_all rfl) (by with_unfolding_all rfl) (Sta.r (i := 1) HS24 (by with_unfolding_all rfl)) 3 Try.sT_implHead (by with_unfolding_all rfl) (by with_unfolding_all rfl) (by with_unfolding_all rfl) ?_); intro w26 hA26 hO26; have HS26 := Sta.put 1 HS24 rfl hA26 (by simp) hO26; clear hA26 hO26))
      exact bodyPost_ret (results_V (t := 35) rfl _ w.heap.size [.int .i64 s, .string rt, .int .i64 x] rfl (Sta.r (i := 1) HS26 (by with_unfolding_all rfl)) Try.uT_implHead 3 Try.sT_implHead rfl) rfl ⟨rfl, Sta.r (i := 2) HS26 rfl, Sta.only HS26 hg⟩
  · as_aux_lemma =>
    rewrite [if_pos (wanted_free rfl)]
    with_reducible refine wp_allocV 35 (by with_unfolding_all rfl) [.int .i64 0, .string ⟨#[]⟩, .int .i64 0] Try.zT_implHead ?_
    intro w27 hA27 hB27
    have HS27 := Sta.new HS2 hA27 hB27 (by simp)
    clear hA27 hB27
    refine hK.out _ _ trivial (fun hHeld => ?_)
    clear hK K
    try simp only [Act.put, List.setIfInBounds_toArray, List.set_cons_zero, List.set_cons_succ]
    refine wpAnyH_ready (rs := [3]) (by kernel_rfl) (by simp) (AllReadyH.cons (o := ⟨_, _, _, _, _, _⟩) rfl (fun K hK => ?_) AllReadyH.nil)
    rewrite [if_pos (wanted_free rfl)]
    go_simp
    have n28_0 : RowV w27 g [.string t, .int .i64 (p : Int)] := (Sta.r (i := 2) HS27 rfl :)
    (with_reducible refine (hC1 w27 n28_0).mono ?_)
    rintro r w28 ⟨rfl, hA28, hO28⟩
    have HS28 := Sta.put 2 HS27 rfl hA28 (by simp) hO28
    clear hA28 hO28
    go_wp2_with fail
    refine hK.out _ _ trivial (fun hHeld => ?_)
    clear hK K
    try simp only [Act.put, List.setIfInBounds_toArray, List.set_cons_zero, List.set_cons_succ]
    refine wpAnyH_ready (rs := [7]) (by kernel_rfl) (by simp) (AllReadyH.cons (o := ⟨_, _, _, _, _, _⟩) rfl (fun K hK => ?_) AllReadyH.nil)
    rewrite [if_pos (wanted_free rfl)]
    go_simp
    have n29_0 : RowV w28 g [.string t, .int .i64 (b1 : Int)] := (Sta.r (i := 2) HS28 rfl :)
    (with_reducible refine (hC2 w28 n29_0).mono ?_)
    rintro r w29 ⟨rfl, hA29, hO29⟩
    have HS29 := Sta.put 2 HS28 rfl hA29 (by simp) hO29
    clear hA29 hO29
    go_wp2_with fail
    refine hK.out _ _ trivial (fun hHeld => ?_)
    clear hK K
    try simp only [Act.put, List.setIfInBounds_toArray, List.set_cons_zero, List.set_cons_succ]
    refine wpAnyH_ready (rs := [11]) (by kernel_rfl) (by simp) (AllReadyH.cons (o := ⟨_, _, _, _, _, _⟩) rfl (fun K hK => ?_) AllReadyH.nil)
    rewrite [if_pos (wanted_free rfl)]
    go_simp
    have n30_0 : RowV w29 g [.string t, .int .i64 (b2 : Int)] := (Sta.r (i := 2) HS29 rfl :)
    (with_reducible refine (hC3 w29 n30_0).mono ?_)
    rintro r w30 ⟨rfl, hA30, hO30⟩
    have HS30 := Sta.put 2 HS29 rfl hA30 (by simp) hO30
    clear hA30 hO30
    go_wp2_with fail
    refine hK.out _ _ trivial (fun hHeld => ?_)
    clear hK K
    try simp only [Act.put, List.setIfInBounds_toArray, List.set_cons_zero, List.set_cons_succ]
    refine wpAnyH_take (i := 12) (oi := ⟨_, _, _, _, _, _⟩) (v := .agg #[.int .i64 s, .string rt, .int .i64 x]) rfl (by kernel_rfl) (by kernel_rfl) (by kernel_rfl) (fun _ _ _ h => h) (Or.inl ⟨wanted_free rfl, fun w' hSw => ?_⟩) hHeld ?_
    · go_simp
    try simp only [Act.put, List.setIfInBounds_toArray, List.set_cons_zero, List.set_cons_succ]
    refine wpAnyH_ready (rs := [14]) (by kernel_rfl) (by simp) (AllReadyH.cons (o := ⟨_, _, _, _, _, _⟩) rfl (fun K hK => ?_) AllReadyH.nil)
    rewrite [if_pos (wanted_free rfl)]
    with_reducible refine wp_storeV 35 (.tmp 3) (.tmp 16) (by with_unfolding_all rfl) w2.heap.size [.int .i64 0, .string ⟨#[]⟩, .int .i64 0] [.int .i64 s, .string rt, .int .i64 x] (by with_unfolding_all rfl) (by with_unfolding_all rfl) (Sta.r (i := 0) HS30 (by with_unfolding_all rfl)) 3 Try.sT_implHead (by with_unfolding_all rfl) (by with_unfolding_all rfl) (List.all_eq_true.1 (by with_unfolding_all rfl)) ?_
    intro w31 hA31 hO31
    have HS31 := Sta.put 0 HS30 rfl hA31 (by simp) hO31
    clear hA31 hO31
    refine hK.out _ _ trivial (fun hHeld => ?_)
    clear hK K
    try simp only [Act.put]
    refine wpAnyH_done (by kernel_rfl) ?_ _
    clear hHeld
    go_wp2_with fail
    have HS32 := Sta.drew HS31
    refine wp_region_held_drew (S := fun w' => w'.cell? ⟨w2.heap.size, 0, none⟩ = some (.int .i64 s) ∧ w'.cell? ⟨w2.heap.size, 1, none⟩ = some (.string rt) ∧ w'.cell? ⟨w2.heap.size, 2, none⟩ = some (.int .i64 x)) (by kernel_rfl) ⟨Sta.c (i := 0) HS32 rfl rfl, Sta.c (i := 0) HS32 rfl rfl, Sta.c (i := 0) HS32 rfl rfl⟩ (fun hHeld => ?_)
    generalize w31.drew = w32 at *
    refine wpAnyH_take (i := 0) (oi := ⟨_, _, _, _, _, _⟩) (v := .pointer (some ⟨g, 0, none⟩)) rfl (by kernel_rfl) (by kernel_rfl) (by kernel_rfl) (fun _ _ _ h => h) (Or.inl ⟨wanted_free rfl, fun w' hSw => ?_⟩) hHeld ?_
    · go_simp
    try simp only [Act.put, List.setIfInBounds_toArray, List.set_cons_zero, List.set_cons_succ]
    refine wpAnyH_take (i := 1) (oi := ⟨_, _, _, _, _, _⟩) (v := .pointer (some ⟨g, 0, none⟩)) rfl (by kernel_rfl) (by kernel_rfl) (by kernel_rfl) (fun _ _ _ h => h) (Or.inl ⟨wanted_free rfl, fun w' hSw => ?_⟩) hHeld ?_
    · go_simp
    try simp only [Act.put, List.setIfInBounds_toArray, List.set_cons_zero, List.set_cons_succ]
    refine wpAnyH_take (i := 2) (oi := ⟨_, _, _, _, _, _⟩) (v := .pointer (some ⟨g, 0, none⟩)) rfl (by kernel_rfl) (by kernel_rfl) (by kernel_rfl) (fun _ _ _ h => h) (Or.inl ⟨wanted_free rfl, fun w' hSw => ?_⟩) hHeld ?_
    · go_simp
    try simp only [Act.put, List.setIfInBounds_toArray, List.set_cons_zero, List.set_cons_succ]
    refine wpAnyH_take (i := 3) (oi := ⟨_, _, _, _, _, _⟩) (v := .agg #[.int .i64 s, .string rt, .int .i64 x]) rfl (by kernel_rfl) (by kernel_rfl) (by kernel_rfl) (fun _ _ _ h => h) (Or.inl ⟨wanted_free rfl, fun w' hSw => ?_⟩) hHeld ?_
    · obtain ⟨s0, s1, s2⟩ := hSw
      go_simp
    try simp only [Act.put, List.setIfInBounds_toArray, List.set_cons_zero, List.set_cons_succ]
    refine wpAnyH_ready (rs := [4]) (by kernel_rfl) (by simp) (AllReadyH.cons (o := ⟨_, _, _, _, _, _⟩) rfl (fun K hK => ?_) AllReadyH.nil)
    rewrite [if_pos (wanted_free rfl)]
    go_simp
    (with_reducible refine (hC4 w32).mono ?_)
    rintro r w33 ⟨rfl, hB33⟩
    have HS33 := Sta.call HS32 hB33
    clear hB33
    go_wp2_with fail
    refine hK.out _ _ ⟨Sta.c (i := 0) HS33 rfl rfl, Sta.c (i := 0) HS33 rfl rfl, Sta.c (i := 0) HS33 rfl rfl⟩ (fun hHeld => ?_)
    clear hK K
    try simp only [Act.put, List.setIfInBounds_toArray, List.set_cons_zero, List.set_cons_succ]
    refine wpAnyH_ready (rs := [5]) (by kernel_rfl) (by simp) (AllReadyH.cons (o := ⟨_, _, _, _, _, _⟩) rfl (fun K hK => ?_) AllReadyH.nil)
    rewrite [if_pos (wanted_free rfl)]
    go_simp
    (with_reducible refine (hC5 w33).mono ?_)
    rintro r w' ⟨rfl, rfl⟩
    go_wp2_with fail
    refine hK.out _ _ ⟨Sta.c (i := 0) HS33 rfl rfl, Sta.c (i := 0) HS33 rfl rfl, Sta.c (i := 0) HS33 rfl rfl⟩ (fun hHeld => ?_)
    clear hK K
    try simp only [Act.put, List.setIfInBounds_toArray, List.set_cons_zero, List.set_cons_succ]
    refine wpAnyH_done (by kernel_rfl) ?_ _
    clear hHeld
    go_wp2_with (first
      | ((with_reducible refine wpList_loadV (w := w33) (by with_unfolding_all rfl) 35 (.tmp 3) (by with_unfolding_all rfl) w2.heap.size [.int .i64 s, .string rt, .int .i64 x] (by with_unfolding_all rfl) (Sta.r (i := 0) HS33 (by with_unfolding_all rfl)) Try.uT_implHead 3 Try.sT_implHead (by with_unfolding_all rfl) ?_))
      | ((with_reducible refine wpList_storeS (w := w33) (by with_unfolding_all rfl) 35 (.tmp 2) (.tmp 23) (by with_unfolding_all rfl) w.heap.size [.int .i64 0, .string ⟨#[]⟩, .int .i64 0] [.int .i64 s, .string rt, .int .i64 x] (by with_unfolding_all rfl) (by with_unfolding_all rfl) (Sta.r (i := 1) HS33 (by with_unfolding_all rfl)) 3 Try.sT_implHead (by with_unfolding_all rfl) (by with_unfolding_all rfl) (by with_unfolding_all rfl) ?_); intro w35 hA35 hO35; have HS35 := Sta.put 1 HS33 rfl hA35 (by simp) hO35; clear hA35 hO35))
    exact bodyPost_ret (results_V (t := 35) rfl _ w.heap.size [.int .i64 s, .string rt, .int .i64 x] rfl (Sta.r (i := 1) HS35 (by with_unfolding_all rfl)) Try.uT_implHead 3 Try.sT_implHead rfl) rfl ⟨rfl, Sta.r (i := 2) HS35 rfl, Sta.only HS35 hg⟩
/- What the reader tells. -/
def HdT (t : ByteArray) (g : Nat) (R : Option (Int × ByteArray × Int × Nat)) (w : World) (e : Ending) (w' : World) : Prop :=
  (∃ s r x q, R = some (s, r, x, q) ∧ e = .returned (.agg #[.int .i64 s, .string r, .int .i64 x]) ∧ RowV w' g (cuv t q) ∧ Only g w w') ∨ (R = none ∧ e = .panicked [{ v := faultV, recovered := false }] ∧ Only g w w')
theorem hdI (g p : Nat) (t : ByteArray) (w : World) (hs : t.size ≤ maxLen) (hp : p ≤ t.size) (h : RowV w g (cuv t p)) :
    Calls Try.prog 75 #[.pointer (some ⟨g, 0, none⟩)] w (HdT t g (headO t p) w) := by
  have no : headO t p = none → Calls Try.prog 75 #[.pointer (some ⟨g, 0, none⟩)] w (fun e w' => e = .panicked [{ v := faultV, recovered := false }] ∧ Only g w w') → Calls Try.prog 75 #[.pointer (some ⟨g, 0, none⟩)] w (HdT t g (headO t p) w) := fun hn hc => hc.mono fun e w' h => Or.inr ⟨hn, h⟩
  cases h1 : numO t p with
  | none => exact no (by unfold headO; rw [h1]) (hdN0 g p t w hs hp h1 h)
  | some y1 =>
  obtain ⟨s, b1⟩ := y1
  have l1 := (numO_some h1).2.1
  cases h2 : bytesO t b1 32 with
  | none => exact no (by unfold headO; rw [h1]; simp only; rw [h2]) (hdN1 g p b1 t s w hs hp h1 l1 h2 h)
  | some y2 =>
  obtain ⟨r, b2⟩ := y2
  have l2 := (bytesO_size h2).2
  cases h3 : numO t b2 with
  | none => exact no (by unfold headO; rw [h1]; simp only; rw [h2]; simp only; rw [h3]) (hdN2 g p b1 b2 t s r w hs hp h1 l1 h2 l2 h3 h)
  | some y3 =>
  obtain ⟨x, b3⟩ := y3
  cases h4 : headB s r x with
  | false => exact no (by unfold headO; rw [h1]; simp only; rw [h2]; simp only; rw [h3]; simp only; rw [if_neg (by rw [h4]; simp)]) (hdN3 g p b1 b2 b3 t s r x w hs hp h1 l1 h2 l2 h3 h4 h)
  | true =>
    refine (hdY g p b1 b2 b3 t s r x w hs hp h1 l1 h2 l2 h3 h4 h).mono fun e w' h => Or.inl ⟨s, r, x, b3, headO_of h1 h2 h3 h4, h⟩
end Go.Proofs.Ytdfglpbappeoaaa
