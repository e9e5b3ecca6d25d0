/- HeadRead of the specification. -/
import Derived.Test.YtdfglpbappeoaaaRdH
import Derived.Test.YtdfglpbappeoaaaSpG
namespace Go.Proofs.Ytdfglpbappeoaaa
open Go.RowKit
set_option linter.unusedVariables false

theorem bytR_size {t x : ByteArray} {p p' : Nat} {d d' : Bool} (h : BytR t p d x p' d') : x.size ≤ maxLen := by
  rcases h.2 with ⟨_, h1, _⟩ | ⟨_, _, h1⟩
  · have := (bytesO_size h1).1
    unfold maxLen
    omega
  · rw [h1]
    exact Nat.zero_le _
/- What the reader's steps say together. -/
structure HdR4 (t : ByteArray) (p1 : Nat) (d1 : Bool) (s : Int) (p2 : Nat) (d2 : Bool) (r : ByteArray) (p3 : Nat) (d3 : Bool) (x : Int) (p4 : Nat) (d4 : Bool) : Prop where
  f : FstR t ⟨#[72]⟩ p1 d1
  a : NumR t p1 d1 s p2 d2
  b : BytR t p2 d2 r p3 d3
  c : NumR t p3 d3 x p4 d4
theorem HdR4.yes {t : ByteArray} {p1 p2 p3 p4 : Nat} {d1 d2 d3 d4 : Bool} {s x : Int} {r : ByteArray} (h : HdR4 t p1 d1 s p2 d2 r p3 d3 x p4 d4) (hd : doneB t p4 d4 = true) (hl : headB s r x = true) : HeadOk t s r x := by
  unfold doneB at hd
  rw [Bool.and_eq_true, decide_eq_true_eq] at hd
  obtain ⟨h4, hq⟩ := hd
  have h4' : d4 = false := by cases d4 with
    | true => cases h4
    | false => rfl
  rcases h.c.2 with ⟨c1, c2, -⟩ | ⟨-, c3⟩
  · rcases h.b.2 with ⟨b1, b2, -⟩ | ⟨-, b3, -⟩
    · rcases h.a.2 with ⟨a1, a2, -⟩ | ⟨-, a3⟩
      · rcases h.f.2 with ⟨y, f1, f2, f3, -⟩ | ⟨-, f4⟩
        · subst f3
          have hy : y = 72 := by
            have := congrArg (fun b : ByteArray => b.data.toList) f1
            simpa using this.symm
          subst hy
          exact ⟨f2, p4, headO_of a2 b2 c2 hl, hq⟩
        · rw [a1] at f4; cases f4
      · rw [b1] at a3; cases a3
    · rw [c1] at b3; cases b3
  · rw [h4'] at c3; cases c3
theorem HdR4.no {t : ByteArray} {p1 p2 p3 p4 : Nat} {d1 d2 d3 d4 : Bool} {s x : Int} {r : ByteArray} (h : HdR4 t p1 d1 s p2 d2 r p3 d3 x p4 d4) (hn : ¬ (doneB t p4 d4 = true ∧ headB s r x = true)) : ¬ ∃ s r x, HeadOk t s r x := by
  rintro ⟨s', r', x', hf, q, ho, hq⟩
  obtain ⟨b1, b2, h1, h2, h3, h4⟩ := headO_some ho
  rcases h.f.2 with ⟨y, f1, f2, f3, f4⟩ | ⟨f5, -⟩
  case inr => exact f5 ⟨72, rfl, hf⟩
  subst f3 f4
  rcases h.a.2 with ⟨-, a2, a4⟩ | ⟨a3, -⟩
  case inr =>
    rcases a3 with a3 | a3
    · cases a3
    · rw [h1] at a3; cases a3
  rw [h1] at a2
  injection a2 with a2
  injection a2 with e1 e2
  subst e1 e2 a4
  rcases h.b.2 with ⟨-, b3, b4⟩ | ⟨b3, -⟩
  case inr =>
    rcases b3 with b3 | b3
    · cases b3
    · rw [h2] at b3; cases b3
  rw [h2] at b3
  injection b3 with b3
  injection b3 with e1 e2
  subst e1 e2 b4
  rcases h.c.2 with ⟨-, c2, c4⟩ | ⟨c3, -⟩
  case inr =>
    rcases c3 with c3 | c3
    · cases c3
    · rw [h3] at c3; cases c3
  rw [h3] at c2
  injection c2 with c2
  injection c2 with e1 e2
  subst e1 e2 c4
  exact hn ⟨by unfold doneB; rw [decide_eq_true hq]; rfl, h4⟩
set_option maxRecDepth 100000 in
set_option maxHeartbeats 4000000 in
theorem spHead (t : ByteArray) (w : World) (hs : t.size ≤ maxLen) :
    Calls Try.prog 73 #[.string t] w fun e w' => ∃ (s : Int) (rt : ByteArray) (x : Int) (ok : Bool), e = .returned (.tuple #[.agg #[.int .i64 s, .string rt, .int .i64 x], .bool ok]) ∧ ((ok = true ∧ HeadOk t s rt x) ∨ (ok = false ∧ ¬ ∃ s r x, HeadOk t s r x)) ∧ Below w.heap.size w w' := by
  have hC1 : ∀ w0 (w1 : World), (RowV w0 (w1.heap.size) [.string t, .int .i64 0, .bool false]) → Calls Try.prog 104 #[.pointer (some ⟨w1.heap.size, 0, none⟩), .string ⟨#[72]⟩] w0 fun r w' => ∃ (p1 : Nat) (d1 : Bool), r = .returned (.tuple #[]) ∧ FstR t ⟨#[72]⟩ p1 d1 ∧ RowV w' w1.heap.size [.string t, .int .i64 (p1 : Int), .bool d1] ∧ Only w1.heap.size w0 w' := fun w0 w1 n0 => spFirst _ t ⟨#[72]⟩ w0 hs n0
  have hC2 : ∀ w0 (p1 : Nat) (d1 : Bool) (w1 : World), (RowV w0 (w1.heap.size) [.string t, .int .i64 (p1 : Int), .bool d1]) → (p1 ≤ t.size) → Calls Try.prog 105 #[.pointer (some ⟨w1.heap.size, 0, none⟩)] w0 fun r w' => ∃ (s : Int) (p2 : Nat) (d2 : Bool), r = .returned (.int .i64 s) ∧ NumR t p1 d1 s p2 d2 ∧ RowV w' w1.heap.size [.string t, .int .i64 (p2 : Int), .bool d2] ∧ Only w1.heap.size w0 w' := fun w0 p1 d1 w1 n0 n1 => spNum _ p1 t w0 hs n1 d1 n0
  have hC3 : ∀ w0 (p2 : Nat) (d2 : Bool) (w1 : World), (RowV w0 (w1.heap.size) [.string t, .int .i64 (p2 : Int), .bool d2]) → (p2 ≤ t.size) → Calls Try.prog 121 #[.pointer (some ⟨w1.heap.size, 0, none⟩), .int .i64 32] w0 fun r w' => ∃ (rt : ByteArray) (p3 : Nat) (d3 : Bool), r = .returned (.string rt) ∧ BytR t p2 d2 rt p3 d3 ∧ RowV w' w1.heap.size [.string t, .int .i64 (p3 : Int), .bool d3] ∧ Only w1.heap.size w0 w' := fun w0 p2 d2 w1 n0 n1 => spByt _ p2 t w0 hs n1 d2 n0
  have hC4 : ∀ w0 (p3 : Nat) (d3 : Bool) (w1 : World), (RowV w0 (w1.heap.size) [.string t, .int .i64 (p3 : Int), .bool d3]) → (p3 ≤ t.size) → Calls Try.prog 105 #[.pointer (some ⟨w1.heap.size, 0, none⟩)] w0 fun r w' => ∃ (x : Int) (p4 : Nat) (d4 : Bool), r = .returned (.int .i64 x) ∧ NumR t p3 d3 x p4 d4 ∧ RowV w' w1.heap.size [.string t, .int .i64 (p4 : Int), .bool d4] ∧ Only w1.heap.size w0 w' := fun w0 p3 d3 w1 n0 n1 => spNum _ p3 t w0 hs n1 d3 n0
  have hC5 : ∀ w0 (p4 : Nat) (d4 : Bool) (w1 : World), (RowV w0 (w1.heap.size) [.string t, .int .i64 (p4 : Int), .bool d4]) → (p4 ≤ t.size) → (doneB t p4 d4 = false) → Calls Try.prog 107 #[.pointer (some ⟨w1.heap.size, 0, none⟩)] w0 fun r w' => r = .returned (.bool false) ∧ Below w0.heap.size w0 w' := fun w0 p4 d4 w1 n0 n1 n2 => by rw [← n2]; exact spDone _ p4 t w0 hs n1 d4 n0
  have hC6 : ∀ w0 (p4 : Nat) (d4 : Bool) (w1 : World), (RowV w0 (w1.heap.size) [.string t, .int .i64 (p4 : Int), .bool d4]) → (p4 ≤ t.size) → (doneB t p4 d4 = true) → Calls Try.prog 107 #[.pointer (some ⟨w1.heap.size, 0, none⟩)] w0 fun r w' => r = .returned (.bool true) ∧ Below w0.heap.size w0 w' := fun w0 p4 d4 w1 n0 n1 n2 => by rw [← n2]; exact spDone _ p4 t w0 hs n1 d4 n0
  have hC7 : ∀ w0 (s : Int) (p2 : Nat) (d2 : Bool) (rt : ByteArray) (p3 : Nat) (d3 : Bool) (x : Int), (headB s rt x = false) → (BytR t p2 d2 rt p3 d3) → Calls Try.prog 69 #[.agg #[.int .i64 s, .string rt, .int .i64 x]] w0 fun r w' => r = .returned (.bool false) ∧ Below w0.heap.size w0 w' := fun w0 s p2 d2 rt p3 d3 x n0 n1 => by rw [← n0]; exact specHead s rt x w0 (bytR_size n1)
  have hC8 : ∀ w0 (s : Int) (p2 : Nat) (d2 : Bool) (rt : ByteArray) (p3 : Nat) (d3 : Bool) (x : Int), (headB s rt x = true) → (BytR t p2 d2 rt p3 d3) → Calls Try.prog 69 #[.agg #[.int .i64 s, .string rt, .int .i64 x]] w0 fun r w' => r = .returned (.bool true) ∧ Below w0.heap.size w0 w' := fun w0 s p2 d2 rt p3 d3 x n0 n1 => by rw [← n0]; exact specHead s rt x w0 (bytR_size n1)
  have HS0 : Hid (Sta [] w [] [] w) := Sta.start w
  clear hs
  go_enter Try.func73, Try.ntmps73
  go_wp2_with (first
    | ((with_reducible refine wpList_allocV (w := w) (by with_unfolding_all rfl) 35 (by with_unfolding_all rfl) [.int .i64 0, .string ⟨#[]⟩, .int .i64 0] Try.zT_implHead ?_); intro w1 hA1 hB1 hS1; clear hS1; have HS1 := Sta.new HS0 hA1 hB1 (by simp); clear hA1 hB1)
    | ((with_reducible refine wpList_boxV (w := w1) (by with_unfolding_all rfl) 132 (.tmp 7) (by with_unfolding_all rfl) [.string t, .int .i64 0, .bool false] (by with_unfolding_all rfl) ?_); intro w2 hA2 hB2 hS2; clear hS2; have HS2 := Sta.new HS1 hA2 hB2 (by simp); clear hA2 hB2)
    | ((with_reducible refine wpList_allocV (w := w2) (by with_unfolding_all rfl) 35 (by with_unfolding_all rfl) [.int .i64 0, .string ⟨#[]⟩, .int .i64 0] Try.zT_implHead ?_); intro w3 hA3 hB3 hS3; clear hS3; have HS3 := Sta.new HS2 hA3 hB3 (by simp); clear hA3 hB3)
    | ((with_reducible refine wpList_storeS (w := w3) (by with_unfolding_all rfl) 35 (.tmp 5) (.tmp 9) (by with_unfolding_all rfl) w2.heap.size [.int .i64 0, .string ⟨#[]⟩, .int .i64 0] [.int .i64 0, .string ⟨#[]⟩, .int .i64 0] (by with_unfolding_all rfl) (by with_unfolding_all rfl) (Sta.r (i := 0) HS3 (by with_unfolding_all rfl)) 3 Try.sT_implHead (by with_unfolding_all rfl) (by with_unfolding_all rfl) (by with_unfolding_all rfl) ?_); intro w4 hA4 hO4; have HS4 := Sta.put 0 HS3 rfl hA4 (by simp) hO4; clear hA4 hO4)
    | (go_at_call 104; have n5_0 : RowV w4 (w1.heap.size) [.string t, .int .i64 0, .bool false] := (Sta.r (i := 1) HS4 rfl :); (with_reducible refine (hC1 w4 w1 n5_0).mono ?_); rintro r w5 ⟨p1, d1, rfl, f1, hA5, hO5⟩; have Hf1 := hidP f1; clear f1; have HS5 := Sta.put 1 HS4 rfl hA5 (by simp) hO5; clear hA5 hO5)
    | (go_at_call 105; have n6_0 : RowV w5 (w1.heap.size) [.string t, .int .i64 (p1 : Int), .bool d1] := (Sta.r (i := 1) HS5 rfl :); have n6_1 : p1 ≤ t.size := Hf1.out.1; (with_reducible refine (hC2 w5 p1 d1 w1 n6_0 n6_1).mono ?_); rintro r w6 ⟨s, p2, d2, rfl, f2, hA6, hO6⟩; have Hf2 := hidP f2; clear f2; have HS6 := Sta.put 1 HS5 rfl hA6 (by simp) hO6; clear hA6 hO6)
    | ((with_reducible refine wpList_cellS (w := w6) (by with_unfolding_all rfl) 2 (.tmp 14) (.tmp 13) (by with_unfolding_all rfl) w2.heap.size 0 [.int .i64 0, .string ⟨#[]⟩, .int .i64 0] [.int .i64 s, .string ⟨#[]⟩, .int .i64 0] (.int .i64 s) (by with_unfolding_all rfl) (by with_unfolding_all rfl) (by with_unfolding_all rfl) Try.s1_int64 (Sta.r (i := 0) HS6 (by with_unfolding_all rfl)) (by simp) (by with_unfolding_all rfl) ?_); intro w7 hA7 hO7; have HS7 := Sta.put 0 HS6 rfl hA7 (by simp) hO7; clear hA7 hO7)
    | (go_at_call 121; have n8_0 : RowV w7 (w1.heap.size) [.string t, .int .i64 (p2 : Int), .bool d2] := (Sta.r (i := 1) HS7 rfl :); have n8_1 : p2 ≤ t.size := Hf2.out.1; (with_reducible refine (hC3 w7 p2 d2 w1 n8_0 n8_1).mono ?_); rintro r w8 ⟨rt, p3, d3, rfl, f3, hA8, hO8⟩; have Hf3 := hidP f3; clear f3; have HS8 := Sta.put 1 HS7 rfl hA8 (by simp) hO8; clear hA8 hO8)
    | ((with_reducible refine wpList_cellS (w := w8) (by with_unfolding_all rfl) 9 (.tmp 17) (.tmp 16) (by with_unfolding_all rfl) w2.heap.size 1 [.int .i64 s, .string ⟨#[]⟩, .int .i64 0] [.int .i64 s, .string rt, .int .i64 0] (.string rt) (by with_unfolding_all rfl) (by with_unfolding_all rfl) (by with_unfolding_all rfl) Try.s1_string (Sta.r (i := 0) HS8 (by with_unfolding_all rfl)) (by simp) (by with_unfolding_all rfl) ?_); intro w9 hA9 hO9; have HS9 := Sta.put 0 HS8 rfl hA9 (by simp) hO9; clear hA9 hO9)
    | (go_at_call 105; have n10_0 : RowV w9 (w1.heap.size) [.string t, .int .i64 (p3 : Int), .bool d3] := (Sta.r (i := 1) HS9 rfl :); have n10_1 : p3 ≤ t.size := Hf3.out.1; (with_reducible refine (hC4 w9 p3 d3 w1 n10_0 n10_1).mono ?_); rintro r w10 ⟨x, p4, d4, rfl, f4, hA10, hO10⟩; have Hf4 := hidP f4; clear f4; have HS10 := Sta.put 1 HS9 rfl hA10 (by simp) hO10; clear hA10 hO10)
    | ((with_reducible refine wpList_cellS (w := w10) (by with_unfolding_all rfl) 2 (.tmp 20) (.tmp 19) (by with_unfolding_all rfl) w2.heap.size 2 [.int .i64 s, .string rt, .int .i64 0] [.int .i64 s, .string rt, .int .i64 x] (.int .i64 x) (by with_unfolding_all rfl) (by with_unfolding_all rfl) (by with_unfolding_all rfl) Try.s1_int64 (Sta.r (i := 0) HS10 (by with_unfolding_all rfl)) (by simp) (by with_unfolding_all rfl) ?_); intro w11 hA11 hO11; have HS11 := Sta.put 0 HS10 rfl hA11 (by simp) hO11; clear hA11 hO11))
  have hb3 : doneB t p4 d4 = false ∨ (doneB t p4 d4 = true ∧ headB s rt x = false) ∨ (doneB t p4 d4 = true ∧ headB s rt x = true) := by cases doneB t p4 d4 <;> cases headB s rt x <;> simp
  rcases hb3 with hd | ⟨hd, hh⟩ | ⟨hd, hh⟩
  · as_aux_lemma =>
    go_wp2_with fail
    have HS12 := Sta.drew HS11
    refine wp_region_held_drew (S := fun w' => w'.cell? ⟨w2.heap.size, 0, none⟩ = some (.int .i64 s) ∧ w'.cell? ⟨w2.heap.size, 1, none⟩ = some (.string rt) ∧ w'.cell? ⟨w2.heap.size, 2, none⟩ = some (.int .i64 x)) (by kernel_rfl) ⟨Sta.c (i := 0) HS12 rfl rfl, Sta.c (i := 0) HS12 rfl rfl, Sta.c (i := 0) HS12 rfl rfl⟩ (fun hHeld => ?_)
    generalize w11.drew = w12 at *
    refine wpAnyH_take (i := 0) (oi := ⟨_, _, _, _, _, _⟩) (v := .agg #[.int .i64 s, .string rt, .int .i64 x]) rfl (by kernel_rfl) (by kernel_rfl) (by kernel_rfl) (fun _ _ _ h => h) (Or.inl ⟨wanted_free rfl, fun w' hSw => ?_⟩) hHeld ?_
    · obtain ⟨s0, s1, s2⟩ := hSw
      go_simp
    try simp only [Act.put, List.setIfInBounds_toArray, List.set_cons_zero, List.set_cons_succ]
    refine wpAnyH_take (i := 1) (oi := ⟨_, _, _, _, _, _⟩) (v := .pointer (some ⟨w1.heap.size, 0, none⟩)) rfl (by kernel_rfl) (by kernel_rfl) (by kernel_rfl) (fun _ _ _ h => h) (Or.inl ⟨wanted_free rfl, fun w' hSw => ?_⟩) hHeld ?_
    · go_simp
    try simp only [Act.put, List.setIfInBounds_toArray, List.set_cons_zero, List.set_cons_succ]
    refine wpAnyH_ready (rs := [2]) (by kernel_rfl) (by simp) (AllReadyH.cons (o := ⟨_, _, _, _, _, _⟩) rfl (fun K hK => ?_) AllReadyH.nil)
    rewrite [if_pos (wanted_free rfl)]
    go_simp
    have n13_0 : RowV w12 (w1.heap.size) [.string t, .int .i64 (p4 : Int), .bool d4] := (Sta.r (i := 1) HS12 rfl :)
    have n13_1 : p4 ≤ t.size := Hf4.out.1
    (with_reducible refine (hC5 w12 p4 d4 w1 n13_0 n13_1 hd).mono ?_)
    rintro r w13 ⟨rfl, hB13⟩
    have HS13 := Sta.call HS12 hB13
    clear hB13
    go_wp2_with fail
    refine hK.out _ _ ⟨Sta.c (i := 0) HS13 rfl rfl, Sta.c (i := 0) HS13 rfl rfl, Sta.c (i := 0) HS13 rfl rfl⟩ (fun hHeld => ?_)
    clear hK K
    try simp only [Act.put, List.setIfInBounds_toArray, List.set_cons_zero, List.set_cons_succ]
    refine wpAnyH_take (i := 3) (oi := ⟨_, _, _, _, _, _⟩) (v := .bool false) rfl (by kernel_rfl) (by kernel_rfl) (by kernel_rfl) (fun _ _ _ h => h) (Or.inl ⟨wanted_free rfl, fun w' hSw => ?_⟩) hHeld ?_
    · go_simp
    try simp only [Act.put, List.setIfInBounds_toArray, List.set_cons_zero, List.set_cons_succ]
    refine wpAnyH_take (i := 4) (oi := ⟨_, _, _, _, _, _⟩) (v := undef) rfl (by kernel_rfl) (by kernel_rfl) (by kernel_rfl) (fun _ _ _ h => h) (Or.inr ⟨by with_unfolding_all rfl, rfl⟩) hHeld ?_
    try simp only [Act.put, List.setIfInBounds_toArray, List.set_cons_zero, List.set_cons_succ]
    refine wpAnyH_take (i := 5) (oi := ⟨_, _, _, _, _, _⟩) (v := undef) rfl (by kernel_rfl) (by kernel_rfl) (by kernel_rfl) (fun _ _ _ h => h) (Or.inr ⟨by with_unfolding_all rfl, rfl⟩) hHeld ?_
    try simp only [Act.put, List.setIfInBounds_toArray, List.set_cons_zero, List.set_cons_succ]
    refine wpAnyH_take (i := 6) (oi := ⟨_, _, _, _, _, _⟩) (v := .bool false) rfl (by kernel_rfl) (by kernel_rfl) (by kernel_rfl) (fun _ _ _ h => h) (Or.inl ⟨wanted_free rfl, fun w' hSw => ?_⟩) hHeld ?_
    · go_simp
    try simp only [Act.put, List.setIfInBounds_toArray, List.set_cons_zero, List.set_cons_succ]
    refine wpAnyH_ready (rs := [7]) (by kernel_rfl) (by simp) (AllReadyH.cons (o := ⟨_, _, _, _, _, _⟩) rfl (fun K hK => ?_) AllReadyH.nil)
    rewrite [if_pos (wanted_free rfl)]
    with_reducible refine wp_storeV 35 (.tmp 2) (.tmp 21) (by with_unfolding_all rfl) w.heap.size [.int .i64 0, .string ⟨#[]⟩, .int .i64 0] [.int .i64 s, .string rt, .int .i64 x] (by with_unfolding_all rfl) (by with_unfolding_all rfl) (Sta.r (i := 2) HS13 (by with_unfolding_all rfl)) 3 Try.sT_implHead (by with_unfolding_all rfl) (by with_unfolding_all rfl) (List.all_eq_true.1 (by with_unfolding_all rfl)) ?_
    intro w14 hA14 hO14
    have HS14 := Sta.put 2 HS13 rfl hA14 (by simp) hO14
    clear hA14 hO14
    refine hK.out _ _ ⟨Sta.c (i := 0) HS14 rfl rfl, Sta.c (i := 0) HS14 rfl rfl, Sta.c (i := 0) HS14 rfl rfl⟩ (fun hHeld => ?_)
    clear hK K
    try simp only [Act.put]
    refine wpAnyH_take (i := 8) (oi := ⟨_, _, _, _, _, _⟩) (v := .bool false) rfl (by kernel_rfl) (by kernel_rfl) (by kernel_rfl) (fun _ _ _ h => h) (Or.inl ⟨wanted_free rfl, fun w' hSw => ?_⟩) hHeld ?_
    · go_simp
    try simp only [Act.put, List.setIfInBounds_toArray, List.set_cons_zero, List.set_cons_succ]
    refine wpAnyH_done (by kernel_rfl) ?_ _
    clear hHeld
    go_wp2_with fail
    exact bodyPost_ret (results_VB (t := 35) rfl _ w.heap.size [.int .i64 s, .string rt, .int .i64 x] rfl (Sta.r (i := 2) HS14 (by with_unfolding_all rfl)) Try.uT_implHead 3 Try.sT_implHead rfl (.bool false) rfl) rfl ⟨s, rt, x, false, rfl, Or.inr ⟨rfl, HdR4.no ⟨Hf1.out, Hf2.out, Hf3.out, Hf4.out⟩ (fun h => by rw [hd] at h; cases h.1)⟩, Sta.fin HS14⟩
  · as_aux_lemma =>
    go_wp2_with fail
    have HS15 := Sta.drew HS11
    refine wp_region_held_drew (S := fun w' => w'.cell? ⟨w2.heap.size, 0, none⟩ = some (.int .i64 s) ∧ w'.cell? ⟨w2.heap.size, 1, none⟩ = some (.string rt) ∧ w'.cell? ⟨w2.heap.size, 2, none⟩ = some (.int .i64 x)) (by kernel_rfl) ⟨Sta.c (i := 0) HS15 rfl rfl, Sta.c (i := 0) HS15 rfl rfl, Sta.c (i := 0) HS15 rfl rfl⟩ (fun hHeld => ?_)
    generalize w11.drew = w15 at *
    refine wpAnyH_take (i := 0) (oi := ⟨_, _, _, _, _, _⟩) (v := .agg #[.int .i64 s, .string rt, .int .i64 x]) rfl (by kernel_rfl) (by kernel_rfl) (by kernel_rfl) (fun _ _ _ h => h) (Or.inl ⟨wanted_free rfl, fun w' hSw => ?_⟩) hHeld ?_
    · obtain ⟨s0, s1, s2⟩ := hSw
      go_simp
    try simp only [Act.put, List.setIfInBounds_toArray, List.set_cons_zero, List.set_cons_succ]
    refine wpAnyH_take (i := 1) (oi := ⟨_, _, _, _, _, _⟩) (v := .pointer (some ⟨w1.heap.size, 0, none⟩)) rfl (by kernel_rfl) (by kernel_rfl) (by kernel_rfl) (fun _ _ _ h => h) (Or.inl ⟨wanted_free rfl, fun w' hSw => ?_⟩) hHeld ?_
    · go_simp
    try simp only [Act.put, List.setIfInBounds_toArray, List.set_cons_zero, List.set_cons_succ]
    refine wpAnyH_ready (rs := [2]) (by kernel_rfl) (by simp) (AllReadyH.cons (o := ⟨_, _, _, _, _, _⟩) rfl (fun K hK => ?_) AllReadyH.nil)
    rewrite [if_pos (wanted_free rfl)]
    go_simp
    have n16_0 : RowV w15 (w1.heap.size) [.string t, .int .i64 (p4 : Int), .bool d4] := (Sta.r (i := 1) HS15 rfl :)
    have n16_1 : p4 ≤ t.size := Hf4.out.1
    (with_reducible refine (hC6 w15 p4 d4 w1 n16_0 n16_1 hd).mono ?_)
    rintro r w16 ⟨rfl, hB16⟩
    have HS16 := Sta.call HS15 hB16
    clear hB16
    go_wp2_with fail
    refine hK.out _ _ ⟨Sta.c (i := 0) HS16 rfl rfl, Sta.c (i := 0) HS16 rfl rfl, Sta.c (i := 0) HS16 rfl rfl⟩ (fun hHeld => ?_)
    clear hK K
    try simp only [Act.put, List.setIfInBounds_toArray, List.set_cons_zero, List.set_cons_succ]
    refine wpAnyH_take (i := 3) (oi := ⟨_, _, _, _, _, _⟩) (v := .bool true) rfl (by kernel_rfl) (by kernel_rfl) (by kernel_rfl) (fun _ _ _ h => h) (Or.inl ⟨wanted_free rfl, fun w' hSw => ?_⟩) hHeld ?_
    · go_simp
    try simp only [Act.put, List.setIfInBounds_toArray, List.set_cons_zero, List.set_cons_succ]
    refine wpAnyH_take (i := 4) (oi := ⟨_, _, _, _, _, _⟩) (v := .agg #[.int .i64 s, .string rt, .int .i64 x]) rfl (by kernel_rfl) (by kernel_rfl) (by kernel_rfl) (fun _ _ _ h => h) (Or.inl ⟨by with_unfolding_all rfl, fun w' hSw => ?_⟩) hHeld ?_
    · obtain ⟨s0, s1, s2⟩ := hSw
      go_simp
    try simp only [Act.put, List.setIfInBounds_toArray, List.set_cons_zero, List.set_cons_succ]
    refine wpAnyH_ready (rs := [5]) (by kernel_rfl) (by simp) (AllReadyH.cons (o := ⟨_, _, _, _, _, _⟩) rfl (fun K hK => ?_) AllReadyH.nil)
    rewrite [if_pos (by with_unfolding_all rfl)]
    go_simp
    (with_reducible refine (hC7 w16 s p2 d2 rt p3 d3 x hh Hf3.out).mono ?_)
    rintro r w17 ⟨rfl, hB17⟩
    have HS17 := Sta.call HS16 hB17
    clear hB17
    go_wp2_with fail
    refine hK.out _ _ ⟨Sta.c (i := 0) HS17 rfl rfl, Sta.c (i := 0) HS17 rfl rfl, Sta.c (i := 0) HS17 rfl rfl⟩ (fun hHeld => ?_)
    clear hK K
    try simp only [Act.put, List.setIfInBounds_toArray, List.set_cons_zero, List.set_cons_succ]
    refine wpAnyH_take (i := 6) (oi := ⟨_, _, _, _, _, _⟩) (v := .bool false) rfl (by kernel_rfl) (by kernel_rfl) (by kernel_rfl) (fun _ _ _ h => h) (Or.inl ⟨wanted_free rfl, fun w' hSw => ?_⟩) hHeld ?_
    · go_simp
    try simp only [Act.put, List.setIfInBounds_toArray, List.set_cons_zero, List.set_cons_succ]
    refine wpAnyH_ready (rs := [7]) (by kernel_rfl) (by simp) (AllReadyH.cons (o := ⟨_, _, _, _, _, _⟩) rfl (fun K hK => ?_) AllReadyH.nil)
    rewrite [if_pos (wanted_free rfl)]
    with_reducible refine wp_storeV 35 (.tmp 2) (.tmp 21) (by with_unfolding_all rfl) w.heap.size [.int .i64 0, .string ⟨#[]⟩, .int .i64 0] [.int .i64 s, .string rt, .int .i64 x] (by with_unfolding_all rfl) (by with_unfolding_all rfl) (Sta.r (i := 2) HS17 (by with_unfolding_all rfl)) 3 Try.sT_implHead (by with_unfolding_all rfl) (by with_unfolding_all rfl) (List.all_eq_true.1 (by with_unfolding_all rfl)) ?_
    intro w18 hA18 hO18
    have HS18 := Sta.put 2 HS17 rfl hA18 (by simp) hO18
    clear hA18 hO18
    refine hK.out _ _ ⟨Sta.c (i := 0) HS18 rfl rfl, Sta.c (i := 0) HS18 rfl rfl, Sta.c (i := 0) HS18 rfl rfl⟩ (fun hHeld => ?_)
    clear hK K
    try simp only [Act.put]
    refine wpAnyH_take (i := 8) (oi := ⟨_, _, _, _, _, _⟩) (v := .bool false) rfl (by kernel_rfl) (by kernel_rfl) (by kernel_rfl) (fun _ _ _ h => h) (Or.inl ⟨wanted_free rfl, fun w' hSw => ?_⟩) hHeld ?_
    · go_simp
    try simp only [Act.put, List.setIfInBounds_toArray, List.set_cons_zero, List.set_cons_succ]
    refine wpAnyH_done (by kernel_rfl) ?_ _
    clear hHeld
    go_wp2_with fail
    exact bodyPost_ret (results_VB (t := 35) rfl _ w.heap.size [.int .i64 s, .string rt, .int .i64 x] rfl (Sta.r (i := 2) HS18 (by with_unfolding_all rfl)) Try.uT_implHead 3 Try.sT_implHead rfl (.bool false) rfl) rfl ⟨s, rt, x, false, rfl, Or.inr ⟨rfl, HdR4.no ⟨Hf1.out, Hf2.out, Hf3.out, Hf4.out⟩ (fun h => by rw [hh] at h; cases h.2)⟩, Sta.fin HS18⟩
  · as_aux_lemma =>
    go_wp2_with fail
    have HS19 := Sta.drew HS11
    refine wp_region_held_drew (S := fun w' => w'.cell? ⟨w2.heap.size, 0, none⟩ = some (.int .i64 s) ∧ w'.cell? ⟨w2.heap.size, 1, none⟩ = some (.string rt) ∧ w'.cell? ⟨w2.heap.size, 2, none⟩ = some (.int .i64 x)) (by kernel_rfl) ⟨Sta.c (i := 0) HS19 rfl rfl, Sta.c (i := 0) HS19 rfl rfl, Sta.c (i := 0) HS19 rfl rfl⟩ (fun hHeld => ?_)
    generalize w11.drew = w19 at *
    refine wpAnyH_take (i := 0) (oi := ⟨_, _, _, _, _, _⟩) (v := .agg #[.int .i64 s, .string rt, .int .i64 x]) rfl (by kernel_rfl) (by kernel_rfl) (by kernel_rfl) (fun _ _ _ h => h) (Or.inl ⟨wanted_free rfl, fun w' hSw => ?_⟩) hHeld ?_
    · obtain ⟨s0, s1, s2⟩ := hSw
      go_simp
    try simp only [Act.put, List.setIfInBounds_toArray, List.set_cons_zero, List.set_cons_succ]
    refine wpAnyH_take (i := 1) (oi := ⟨_, _, _, _, _, _⟩) (v := .pointer (some ⟨w1.heap.size, 0, none⟩)) rfl (by kernel_rfl) (by kernel_rfl) (by kernel_rfl) (fun _ _ _ h => h) (Or.inl ⟨wanted_free rfl, fun w' hSw => ?_⟩) hHeld ?_
    · go_simp
    try simp only [Act.put, List.setIfInBounds_toArray, List.set_cons_zero, List.set_cons_succ]
    refine wpAnyH_ready (rs := [2]) (by kernel_rfl) (by simp) (AllReadyH.cons (o := ⟨_, _, _, _, _, _⟩) rfl (fun K hK => ?_) AllReadyH.nil)
    rewrite [if_pos (wanted_free rfl)]
    go_simp
    have n20_0 : RowV w19 (w1.heap.size) [.string t, .int .i64 (p4 : Int), .bool d4] := (Sta.r (i := 1) HS19 rfl :)
    have n20_1 : p4 ≤ t.size := Hf4.out.1
    (with_reducible refine (hC6 w19 p4 d4 w1 n20_0 n20_1 hd).mono ?_)
    rintro r w20 ⟨rfl, hB20⟩
    have HS20 := Sta.call HS19 hB20
    clear hB20
    go_wp2_with fail
    refine hK.out _ _ ⟨Sta.c (i := 0) HS20 rfl rfl, Sta.c (i := 0) HS20 rfl rfl, Sta.c (i := 0) HS20 rfl rfl⟩ (fun hHeld => ?_)
    clear hK K
    try simp only [Act.put, List.setIfInBounds_toArray, List.set_cons_zero, List.set_cons_succ]
    refine wpAnyH_take (i := 3) (oi := ⟨_, _, _, _, _, _⟩) (v := .bool true) rfl (by kernel_rfl) (by kernel_rfl) (by kernel_rfl) (fun _ _ _ h => h) (Or.inl ⟨wanted_free rfl, fun w' hSw => ?_⟩) hHeld ?_
    · go_simp
    try simp only [Act.put, List.setIfInBounds_toArray, List.set_cons_zero, List.set_cons_succ]
    refine wpAnyH_take (i := 4) (oi := ⟨_, _, _, _, _, _⟩) (v := .agg #[.int .i64 s, .string rt, .int .i64 x]) rfl (by kernel_rfl) (by kernel_rfl) (by kernel_rfl) (fun _ _ _ h => h) (Or.inl ⟨by with_unfolding_all rfl, fun w' hSw => ?_⟩) hHeld ?_
    · obtain ⟨s0, s1, s2⟩ := hSw
      go_simp
    try simp only [Act.put, List.setIfInBounds_toArray, List.set_cons_zero, List.set_cons_succ]
    refine wpAnyH_ready (rs := [5]) (by kernel_rfl) (by simp) (AllReadyH.cons (o := ⟨_, _, _, _, _, _⟩) rfl (fun K hK => ?_) AllReadyH.nil)
    rewrite [if_pos (by with_unfolding_all rfl)]
    go_simp
    (with_reducible refine (hC8 w20 s p2 d2 rt p3 d3 x hh Hf3.out).mono ?_)
    rintro r w21 ⟨rfl, hB21⟩
    have HS21 := Sta.call HS20 hB21
    clear hB21
    go_wp2_with fail
    refine hK.out _ _ ⟨Sta.c (i := 0) HS21 rfl rfl, Sta.c (i := 0) HS21 rfl rfl, Sta.c (i := 0) HS21 rfl rfl⟩ (fun hHeld => ?_)
    clear hK K
    try simp only [Act.put, List.setIfInBounds_toArray, List.set_cons_zero, List.set_cons_succ]
    refine wpAnyH_take (i := 6) (oi := ⟨_, _, _, _, _, _⟩) (v := .bool true) rfl (by kernel_rfl) (by kernel_rfl) (by kernel_rfl) (fun _ _ _ h => h) (Or.inl ⟨wanted_free rfl, fun w' hSw => ?_⟩) hHeld ?_
    · go_simp
    try simp only [Act.put, List.setIfInBounds_toArray, List.set_cons_zero, List.set_cons_succ]
    refine wpAnyH_ready (rs := [7]) (by kernel_rfl) (by simp) (AllReadyH.cons (o := ⟨_, _, _, _, _, _⟩) rfl (fun K hK => ?_) AllReadyH.nil)
    rewrite [if_pos (wanted_free rfl)]
    with_reducible refine wp_storeV 35 (.tmp 2) (.tmp 21) (by with_unfolding_all rfl) w.heap.size [.int .i64 0, .string ⟨#[]⟩, .int .i64 0] [.int .i64 s, .string rt, .int .i64 x] (by with_unfolding_all rfl) (by with_unfolding_all rfl) (Sta.r (i := 2) HS21 (by with_unfolding_all rfl)) 3 Try.sT_implHead (by with_unfolding_all rfl) (by with_unfolding_all rfl) (List.all_eq_true.1 (by with_unfolding_all rfl)) ?_
    intro w22 hA22 hO22
    have HS22 := Sta.put 2 HS21 rfl hA22 (by simp) hO22
    clear hA22 hO22
    refine hK.out _ _ ⟨Sta.c (i := 0) HS22 rfl rfl, Sta.c (i := 0) HS22 rfl rfl, Sta.c (i := 0) HS22 rfl rfl⟩ (fun hHeld => ?_)
    clear hK K
    try simp only [Act.put]
    refine wpAnyH_take (i := 8) (oi := ⟨_, _, _, _, _, _⟩) (v := .bool true) rfl (by kernel_rfl) (by kernel_rfl) (by kernel_rfl) (fun _ _ _ h => h) (Or.inl ⟨wanted_free rfl, fun w' hSw => ?_⟩) hHeld ?_
    · go_simp
    try simp only [Act.put, List.setIfInBounds_toArray, List.set_cons_zero, List.set_cons_succ]
    refine wpAnyH_done (by kernel_rfl) ?_ _
    clear hHeld
    go_wp2_with fail
    exact bodyPost_ret (results_VB (t := 35) rfl _ w.heap.size [.int .i64 s, .string rt, .int .i64 x] rfl (Sta.r (i := 2) HS22 (by with_unfolding_all rfl)) Try.uT_implHead 3 Try.sT_implHead rfl (.bool true) rfl) rfl ⟨s, rt, x, true, rfl, Or.inl ⟨rfl, HdR4.yes ⟨Hf1.out, Hf2.out, Hf3.out, Hf4.out⟩ hd hh⟩, Sta.fin HS22⟩
set_option maxRecDepth 100000 in
set_option maxHeartbeats 2000000 in
theorem specHeadRd_big (t : ByteArray) (w : World) (hs : t.size ≤ maxLen) (hb : 20000 < t.size) :
    Calls Try.prog 31 #[.string t] w fun r w' => ∃ (s : Int) (rt : ByteArray) (x c : Int), r = .returned (.agg #[.int .i64 s, .string rt, .int .i64 x, .int .i64 c]) ∧ HdAns t s rt x c ∧ Below w.heap.size w w' := by
  have d1 : decide ((20000 : Int) < (t.size : Int)) = true := decide_eq_true (by omega)
  have HB := hidP hb
  have HS0 : Hid (Sta [] w [] [] w) := Sta.start w
  clear hs hb
  go_enter Try.func31, Try.ntmps31
  go_wp2_with (first
    | ((with_reducible refine wpList_allocV (w := w) (by with_unfolding_all rfl) 59 (by with_unfolding_all rfl) [.int .i64 0, .string ⟨#[]⟩, .int .i64 0, .int .i64 0] Try.zT_implHeadOut ?_); intro w1 hA1 hB1 hS1; clear hS1; have HS1 := Sta.new HS0 hA1 hB1 (by simp); clear hA1 hB1)
    | ((with_reducible refine wpList_storeS (w := w1) (by with_unfolding_all rfl) 59 (.tmp 2) (.tmp 8) (by with_unfolding_all rfl) w.heap.size [.int .i64 0, .string ⟨#[]⟩, .int .i64 0, .int .i64 0] [.int .i64 0, .string ⟨#[]⟩, .int .i64 0, .int .i64 2] (by with_unfolding_all rfl) (by with_unfolding_all rfl) (Sta.r (i := 0) HS1 (by with_unfolding_all rfl)) 4 Try.sT_implHeadOut (by with_unfolding_all rfl) (by with_unfolding_all rfl) (by with_unfolding_all rfl) ?_); intro w2 hA2 hO2; have HS2 := Sta.put 0 HS1 rfl hA2 (by simp) hO2; clear hA2 hO2))
  exact bodyPost_ret (results_V (t := 59) rfl _ w.heap.size [.int .i64 0, .string ⟨#[]⟩, .int .i64 0, .int .i64 2] rfl (Sta.r (i := 0) HS2 (by with_unfolding_all rfl)) Try.uT_implHeadOut 4 Try.sT_implHeadOut rfl) rfl ⟨0, ⟨#[]⟩, 0, 2, rfl, Or.inl ⟨HB.out, rfl, rfl, rfl, rfl⟩, Sta.fin HS2⟩
set_option maxRecDepth 100000 in
set_option maxHeartbeats 2000000 in
theorem specHeadRd_small (t : ByteArray) (w : World) (hs : t.size ≤ maxLen) (hb : ¬ 20000 < t.size) :
    Calls Try.prog 31 #[.string t] w fun r w' => ∃ (s : Int) (rt : ByteArray) (x c : Int), r = .returned (.agg #[.int .i64 s, .string rt, .int .i64 x, .int .i64 c]) ∧ HdAns t s rt x c ∧ Below w.heap.size w w' := by
  have d1 : decide ((20000 : Int) < (t.size : Int)) = false := decide_eq_false (by omega)
  have HB := hidP hb
  have hC1 : ∀ w0, Calls Try.prog 73 #[.string t] w0 fun r w' => ∃ (s : Int) (rt : ByteArray) (x : Int) (ok : Bool), r = .returned (.tuple #[.agg #[.int .i64 s, .string rt, .int .i64 x], .bool ok]) ∧ ((ok = true ∧ HeadOk t s rt x) ∨ (ok = false ∧ ¬ ∃ s r x, HeadOk t s r x)) ∧ Below w0.heap.size w0 w' := fun w0 => spHead t w0 hs
  have HS0 : Hid (Sta [] w [] [] w) := Sta.start w
  clear hs hb
  go_enter Try.func31, Try.ntmps31
  go_wp2_with (first
    | ((with_reducible refine wpList_allocV (w := w) (by with_unfolding_all rfl) 59 (by with_unfolding_all rfl) [.int .i64 0, .string ⟨#[]⟩, .int .i64 0, .int .i64 0] Try.zT_implHeadOut ?_); intro w1 hA1 hB1 hS1; clear hS1; have HS1 := Sta.new HS0 hA1 hB1 (by simp); clear hA1 hB1))
  refine (hC1 w1).mono ?_
  rintro r w2 ⟨s, rt, x, ok, rfl, ho, hB2⟩
  have Hho := hidP ho
  clear ho
  have HS2 := Sta.call HS1 hB2
  clear hB2
  rcases Hho.out with ⟨rfl, ho1⟩ | ⟨rfl, ho1⟩
  · have HO1 := hidP ho1
    clear ho1 Hho
    go_wp2_with (first
      | ((with_reducible refine wpList_allocV (w := w2) (by with_unfolding_all rfl) 35 (by with_unfolding_all rfl) [.int .i64 0, .string ⟨#[]⟩, .int .i64 0] Try.zT_implHead ?_); intro w3 hA3 hB3 hS3; clear hS3; have HS3 := Sta.new HS2 hA3 hB3 (by simp); clear hA3 hB3)
      | ((with_reducible refine wpList_storeS (w := w3) (by with_unfolding_all rfl) 35 (.tmp 3) (.tmp 12) (by with_unfolding_all rfl) w2.heap.size [.int .i64 0, .string ⟨#[]⟩, .int .i64 0] [.int .i64 s, .string rt, .int .i64 x] (by with_unfolding_all rfl) (by with_unfolding_all rfl) (Sta.r (i := 0) HS3 (by with_unfolding_all rfl)) 3 Try.sT_implHead (by with_unfolding_all rfl) (by with_unfolding_all rfl) (by with_unfolding_all rfl) ?_); intro w4 hA4 hO4; have HS4 := Sta.put 0 HS3 rfl hA4 (by simp) hO4; clear hA4 hO4)
      | ((with_reducible refine wpList_loadV (w := w4) (by with_unfolding_all rfl) 35 (.tmp 3) (by with_unfolding_all rfl) w2.heap.size [.int .i64 s, .string rt, .int .i64 x] (by with_unfolding_all rfl) (Sta.r (i := 0) HS4 (by with_unfolding_all rfl)) Try.uT_implHead 3 Try.sT_implHead (by with_unfolding_all rfl) ?_))
      | ((with_reducible refine wpList_storeS (w := w4) (by with_unfolding_all rfl) 59 (.tmp 2) (.tmp 18) (by with_unfolding_all rfl) w.heap.size [.int .i64 0, .string ⟨#[]⟩, .int .i64 0, .int .i64 0] [.int .i64 s, .string rt, .int .i64 x, .int .i64 0] (by with_unfolding_all rfl) (by with_unfolding_all rfl) (Sta.r (i := 1) HS4 (by with_unfolding_all rfl)) 4 Try.sT_implHeadOut (by with_unfolding_all rfl) (by with_unfolding_all rfl) (by with_unfolding_all rfl) ?_); intro w5 hA5 hO5; have HS5 := Sta.put 1 HS4 rfl hA5 (by simp) hO5; clear hA5 hO5))
    exact bodyPost_ret (results_V (t := 59) rfl _ w.heap.size [.int .i64 s, .string rt, .int .i64 x, .int .i64 0] rfl (Sta.r (i := 1) HS5 (by with_unfolding_all rfl)) Try.uT_implHeadOut 4 Try.sT_implHeadOut rfl) rfl ⟨s, rt, x, 0, rfl, Or.inr (Or.inl ⟨Nat.le_of_not_lt HB.out, HO1.out, rfl⟩), Sta.fin HS5⟩
  · have HO1 := hidP ho1
    clear ho1 Hho
    go_wp2_with (first
      | ((with_reducible refine wpList_allocV (w := w2) (by with_unfolding_all rfl) 35 (by with_unfolding_all rfl) [.int .i64 0, .string ⟨#[]⟩, .int .i64 0] Try.zT_implHead ?_); intro w6 hA6 hB6 hS6; clear hS6; have HS6 := Sta.new HS2 hA6 hB6 (by simp); clear hA6 hB6)
      | ((with_reducible refine wpList_storeS (w := w6) (by with_unfolding_all rfl) 35 (.tmp 3) (.tmp 12) (by with_unfolding_all rfl) w2.heap.size [.int .i64 0, .string ⟨#[]⟩, .int .i64 0] [.int .i64 s, .string rt, .int .i64 x] (by with_unfolding_all rfl) (by with_unfolding_all rfl) (Sta.r (i := 0) HS6 (by with_unfolding_all rfl)) 3 Try.sT_implHead (by with_unfolding_all rfl) (by with_unfolding_all rfl) (by with_unfolding_all rfl) ?_); intro w7 hA7 hO7; have HS7 := Sta.put 0 HS6 rfl hA7 (by simp) hO7; clear hA7 hO7)
      | ((with_reducible refine wpList_storeS (w := w7) (by with_unfolding_all rfl) 59 (.tmp 2) (.tmp 16) (by with_unfolding_all rfl) w.heap.size [.int .i64 0, .string ⟨#[]⟩, .int .i64 0, .int .i64 0] [.int .i64 0, .string ⟨#[]⟩, .int .i64 0, .int .i64 3] (by with_unfolding_all rfl) (by with_unfolding_all rfl) (Sta.r (i := 1) HS7 (by with_unfolding_all rfl)) 4 Try.sT_implHeadOut (by with_unfolding_all rfl) (by with_unfolding_all rfl) (by with_unfolding_all rfl) ?_); intro w8 hA8 hO8; have HS8 := Sta.put 1 HS7 rfl hA8 (by simp) hO8; clear hA8 hO8))
    exact bodyPost_ret (results_V (t := 59) rfl _ w.heap.size [.int .i64 0, .string ⟨#[]⟩, .int .i64 0, .int .i64 3] rfl (Sta.r (i := 1) HS8 (by with_unfolding_all rfl)) Try.uT_implHeadOut 4 Try.sT_implHeadOut rfl) rfl ⟨0, ⟨#[]⟩, 0, 3, rfl, Or.inr (Or.inr ⟨Nat.le_of_not_lt HB.out, HO1.out, rfl, rfl, rfl, rfl⟩), Sta.fin HS8⟩
theorem specHeadRd (t : ByteArray) (w : World) (hs : t.size ≤ maxLen) :
    Calls Try.prog 31 #[.string t] w fun r w' => ∃ (s : Int) (rt : ByteArray) (x c : Int), r = .returned (.agg #[.int .i64 s, .string rt, .int .i64 x, .int .i64 c]) ∧ HdAns t s rt x c ∧ Below w.heap.size w w' := by
  by_cases hb : 20000 < t.size
  · exact specHeadRd_big t w hs hb
  · exact specHeadRd_small t w hs hb
end Go.Proofs.Ytdfglpbappeoaaa
