/- Paths and proofs of the program: closures that call themselves. -/
import Derived.Test.YtdfglpbappeoaabDoorJn7
import Derived.Test.YtdfglpbappeoaabDoorPrf
namespace Go.Proofs.YtdfglpbappeoaabDoor
open Go.RowKit
set_option linter.unusedVariables false

theorem own_nilS {w : World} {base e : Nat} : w.ownsRow base e 1 (.slice none 0 0) 0 (svl []) := ⟨rfl, .inl ⟨rfl, rfl⟩⟩
theorem lit_sa1 (w : World) (x : ByteArray) (t : TypeId) : SA (w.alloc (.cells #[.string x] t)) (some ⟨w.heap.size, 0, none⟩) [x] := fun k hk => ⟨w.heap.size, 0, rfl, by
  have : k = 0 := by simpa using hk
  subst this
  simp⟩
theorem own_from {w : World} {b b' e size : Nat} {v : Value} {n : Nat} {xs : List Value} (h : w.ownsRow b e size v n xs) (hb : b' ≤ b) : w.ownsRow b' e size v n xs := by
  refine ⟨h.1, ?_⟩
  rcases h.2 with h0 | ⟨g, cap, cur, h1, h2, h3⟩
  · exact .inl h0
  · exact .inr ⟨g, cap, cur, h1, by omega, h3⟩
/- What stands while the closures run: the leaves, the table, the closure's own cell. -/
structure KpP (w : World) (a : Option Addr) (l : List ByteArray) (p : Nat) (fv : Value) (w' : World) : Prop where
  k : KpT w a l w'
  c : w'.cell? ⟨p, 0, none⟩ = some fv
theorem KpP.hid {w w' w2 : World} {a : Option Addr} {l : List ByteArray} {p : Nat} {fv : Value} (h : Hid (KpP w a l p fv w')) (hb : Below w'.heap.size w' w2) : Hid (KpP w a l p fv w2) :=
  ⟨(KpT.hid (show Hid (KpT w a l w') from h.out.k) hb).out, (hb.cell (p := ⟨p, 0, none⟩) (cellLt h.out.c)).trans h.out.c⟩
set_option maxRecDepth 100000 in
set_option maxHeartbeats 2000000 in
theorem pathI : ∀ (m : Nat) (a : Option Addr) (c n i : Nat) (l : List ByteArray) (w : World) (p : Nat), l.length ≤ m → l.length = n → 1 ≤ n → i < n → n ≤ c → SA w a l → n ≤ 1000 → c ≤ 9223372036854775807 → (∀ x ∈ l, x.size < 20000) → ArrU w 8 keys → 8 < w.heap.size → w.cell? ⟨p, 0, none⟩ = some (.func (.func 98) #[] #[.pointer (some ⟨p, 0, none⟩)]) →
    Calls Tryd.prog 98 #[.slice a n c, .int .i64 (i : Int), .pointer (some ⟨p, 0, none⟩)] w fun e w' => ∃ v, e = .returned v ∧ w'.ownsRow w.heap.size 9 1 v (pthT l i).length (svl (pthT l i)) ∧ Below w.heap.size w w'
  | m, a, c, n, i, l, w, p, hm, hn, hn1, hin, hc, hA, hM, hcM, hx, hk, h0, hcl => by
    by_cases h1 : n = 1
    · have HP : Hid (pthT l i = []) := pthT_one (by omega) i
      subst h1
      clear hA hx hk hcl
      go_enter Tryd.func98, Tryd.ntmps98
      go_wp2
      go_ret
      refine ⟨_, rfl, ?_, Below.refl _ _⟩
      rw [HP.out]
      exact own_nilS
    have d1 : ((n : Int) == 1) = false := beq_eq_false_iff_ne.2 (by omega)
    have h2 : 2 ≤ n := by omega
    match m, hm with
    | 0, hm => omega
    | m + 1, hm =>
    have hl := Mer.half_lt h2
    have hp := Mer.half_pos n
    obtain ⟨b, o, rfl⟩ := hA.base (by omega)
    have l1 : (l.take (Mer.half n)).length = Mer.half n := by rw [List.length_take]; omega
    have l2 : (l.drop (Mer.half n)).length = n - Mer.half n := by rw [List.length_drop]; omega
    have hS : ∀ w0, Calls Tryd.prog 86 #[.slice (some ⟨b, o, none⟩) n c] w0 fun e w' => e = .returned (.tuple #[.slice (some ⟨b, o, none⟩) (Mer.half n) (Mer.half n), .slice (some ⟨b, o + Mer.half n, none⟩) (n - Mer.half n) (n - Mer.half n)]) ∧ Below w0.heap.size w0 w' := fun w0 => splitI b o c n w0 h2 hc (by omega)
    have HS : Hid (KpP w (some ⟨b, o, none⟩) l p (.func (.func 98) #[] #[.pointer (some ⟨p, 0, none⟩)]) w) := KpP.mk (KpT.mk (Below.refl _ _) hA hk h0) hcl
    clear hcl
    by_cases hik : i < Mer.half n
    · have hR1 : ∀ w0, Hid (KpP w (some ⟨b, o, none⟩) l p (.func (.func 98) #[] #[.pointer (some ⟨p, 0, none⟩)]) w0) → Calls Tryd.prog 98 #[.slice (some ⟨b, o, none⟩) (Mer.half n) (Mer.half n), .int .i64 (i : Int), .pointer (some ⟨p, 0, none⟩)] w0 fun e w' => ∃ v, e = .returned v ∧ w'.ownsRow w0.heap.size 9 1 v (pthT (l.take (Mer.half n)) i).length (svl (pthT (l.take (Mer.half n)) i)) ∧ Below w0.heap.size w0 w' := fun w0 h =>
        pathI m (some ⟨b, o, none⟩) (Mer.half n) (Mer.half n) i (l.take (Mer.half n)) w0 p (by omega) l1 (by omega) (by omega) (by omega) (h.out.k.sa.take _) (by omega) (by omega) (fun x hx' => hx x (List.mem_of_mem_take hx')) h.out.k.arr h.out.k.pos h.out.c
      have hR2 : ∀ w0, Hid (KpP w (some ⟨b, o, none⟩) l p (.func (.func 98) #[] #[.pointer (some ⟨p, 0, none⟩)]) w0) → Calls Tryd.prog 35 #[.slice (some ⟨b, o + Mer.half n, none⟩) (n - Mer.half n) (n - Mer.half n)] w0 fun e w' => e = .returned (.string (rtT (l.drop (Mer.half n)))) ∧ Below w0.heap.size w0 w' := fun w0 h =>
        rootI n (some ⟨b, o + Mer.half n, none⟩) (n - Mer.half n) (n - Mer.half n) (l.drop (Mer.half n)) w0 (by omega) l2 (by omega) (by omega) (h.out.k.sa.drop _) (by omega) (by omega) (fun x hx' => hx x (List.mem_of_mem_drop hx')) h.out.k.arr h.out.k.pos
      have HE : Hid (pthT l i = pthT (l.take (Mer.half n)) i ++ [rtT (l.drop (Mer.half n))]) := by show _ = _; rw [pthT_lo (by omega) (by rw [hn]; exact hik), hn]
      have hP1 : (pthT (l.take (Mer.half n)) i).length + 1 ≤ 1000000 := by have := pthT_len (l := (l.take (Mer.half n))) (by omega) i; omega
      generalize pthT (l.take (Mer.half n)) i = P1 at *
      generalize rtT (l.drop (Mer.half n)) = T2 at *
      generalize Mer.half n = k at *
      have hik' : (i : Int) < (k : Int) := by omega
      clear hA hx l1 l2 hk
      go_enter Tryd.func98, Tryd.ntmps98
      go_wp2_with (first
        | (go_at_call 86; refine (hS _).mono ?_; rintro e w5 ⟨rfl, h5⟩; have HS5 := KpP.hid HS h5; have hcl5 := HS5.out.c)
        | (go_at_call 98; with_reducible refine (hR1 _ HS5).mono ?_; rintro e w6 ⟨v6, rfl, hO6, h6⟩; have HS6 := KpP.hid HS5 h6)
        | (go_at_call 35; refine (hR2 _ HS6).mono ?_; rintro e w7 ⟨rfl, h7⟩; have HS7 := KpP.hid HS6 h7; have hO7 := own_below hO6 h7; have hO8 : Hid ((w7.alloc (.cells #[.string T2] 9)).ownsRow w.heap.size 9 1 v6 P1.length (svl P1)) := (own_from hO7 (Nat.le_trans HS5.out.k.below.size (Nat.le_refl _))).alloc (.cells #[.string T2] 9); have hx8 : Hid (SA (w7.alloc (.cells #[.string T2] 9)) (some ⟨w7.heap.size, 0, none⟩) [T2]) := lit_sa1 w7 T2 9; have B8 : Hid (Below w.heap.size w (w7.alloc (.cells #[.string T2] 9))) := HS7.out.k.below.alloc HS7.out.k.below.size _; clear hO6 hO7 hcl5)
        | (at_builtin; with_reducible refine wpList_append_strs rfl _ _ rfl w.heap.size v6 P1.length 1 P1 [T2] rfl hO8.out w7.heap.size 0 1 rfl rfl hx8.out hP1 B8.out.size ?_; intro v9 w9 hO9 hB9 hv9))
      go_ret
      refine ⟨v9, rfl, ?_, B8.out.trans hB9⟩
      rw [HE.out, List.length_append]
      exact hO9
    · have hR1 : ∀ w0, Hid (KpP w (some ⟨b, o, none⟩) l p (.func (.func 98) #[] #[.pointer (some ⟨p, 0, none⟩)]) w0) → Calls Tryd.prog 98 #[.slice (some ⟨b, o + Mer.half n, none⟩) (n - Mer.half n) (n - Mer.half n), .int .i64 ((i - Mer.half n : Nat) : Int), .pointer (some ⟨p, 0, none⟩)] w0 fun e w' => ∃ v, e = .returned v ∧ w'.ownsRow w0.heap.size 9 1 v (pthT (l.drop (Mer.half n)) (i - Mer.half n)).length (svl (pthT (l.drop (Mer.half n)) (i - Mer.half n))) ∧ Below w0.heap.size w0 w' := fun w0 h =>
        pathI m (some ⟨b, o + Mer.half n, none⟩) (n - Mer.half n) (n - Mer.half n) (i - Mer.half n) (l.drop (Mer.half n)) w0 p (by omega) l2 (by omega) (by omega) (by omega) (h.out.k.sa.drop _) (by omega) (by omega) (fun x hx' => hx x (List.mem_of_mem_drop hx')) h.out.k.arr h.out.k.pos h.out.c
      have hR2 : ∀ w0, Hid (KpP w (some ⟨b, o, none⟩) l p (.func (.func 98) #[] #[.pointer (some ⟨p, 0, none⟩)]) w0) → Calls Tryd.prog 35 #[.slice (some ⟨b, o, none⟩) (Mer.half n) (Mer.half n)] w0 fun e w' => e = .returned (.string (rtT (l.take (Mer.half n)))) ∧ Below w0.heap.size w0 w' := fun w0 h =>
        rootI n (some ⟨b, o, none⟩) (Mer.half n) (Mer.half n) (l.take (Mer.half n)) w0 (by omega) l1 (by omega) (by omega) (h.out.k.sa.take _) (by omega) (by omega) (fun x hx' => hx x (List.mem_of_mem_take hx')) h.out.k.arr h.out.k.pos
      have HE : Hid (pthT l i = pthT (l.drop (Mer.half n)) (i - Mer.half n) ++ [rtT (l.take (Mer.half n))]) := by show _ = _; rw [pthT_hi (by omega) (by rw [hn]; omega), hn]
      have hP1 : (pthT (l.drop (Mer.half n)) (i - Mer.half n)).length + 1 ≤ 1000000 := by have := pthT_len (l := (l.drop (Mer.half n))) (by omega) (i - Mer.half n); omega
      generalize pthT (l.drop (Mer.half n)) (i - Mer.half n) = P1 at *
      generalize rtT (l.take (Mer.half n)) = T2 at *
      generalize Mer.half n = k at *
      obtain ⟨j, hj⟩ : ∃ j : Nat, i - k = j := ⟨_, rfl⟩
      have es : (i : Int) - (k : Int) = (j : Int) := by omega
      rw [hj] at hR1
      have hik' : ¬ (i : Int) < (k : Int) := by omega
      clear hA hx l1 l2 hk
      go_enter Tryd.func98, Tryd.ntmps98
      go_wp2_with (first
        | (go_at_call 86; refine (hS _).mono ?_; rintro e w5 ⟨rfl, h5⟩; have HS5 := KpP.hid HS h5; have hcl5 := HS5.out.c)
        | (go_at_call 98; with_reducible refine (hR1 _ HS5).mono ?_; rintro e w6 ⟨v6, rfl, hO6, h6⟩; have HS6 := KpP.hid HS5 h6)
        | (go_at_call 35; refine (hR2 _ HS6).mono ?_; rintro e w7 ⟨rfl, h7⟩; have HS7 := KpP.hid HS6 h7; have hO7 := own_below hO6 h7; have hO8 : Hid ((w7.alloc (.cells #[.string T2] 9)).ownsRow w.heap.size 9 1 v6 P1.length (svl P1)) := (own_from hO7 (Nat.le_trans HS5.out.k.below.size (Nat.le_refl _))).alloc (.cells #[.string T2] 9); have hx8 : Hid (SA (w7.alloc (.cells #[.string T2] 9)) (some ⟨w7.heap.size, 0, none⟩) [T2]) := lit_sa1 w7 T2 9; have B8 : Hid (Below w.heap.size w (w7.alloc (.cells #[.string T2] 9))) := HS7.out.k.below.alloc HS7.out.k.below.size _; clear hO6 hO7 hcl5)
        | (at_builtin; with_reducible refine wpList_append_strs rfl _ _ rfl w.heap.size v6 P1.length 1 P1 [T2] rfl hO8.out w7.heap.size 0 1 rfl rfl hx8.out hP1 B8.out.size ?_; intro v9 w9 hO9 hB9 hv9))
      go_ret
      refine ⟨v9, rfl, ?_, B8.out.trans hB9⟩
      rw [HE.out, List.length_append]
      exact hO9
set_option maxRecDepth 100000 in
set_option maxHeartbeats 2000000 in
theorem proofI : ∀ (m : Nat) (a : Option Addr) (c n i : Nat) (kn : Bool) (l : List ByteArray) (w : World) (p : Nat), l.length ≤ m → l.length = n → 1 ≤ i → i ≤ n → n ≤ c → SA w a l → n ≤ 1000 → c ≤ 9223372036854775807 → (∀ x ∈ l, x.size < 20000) → ArrU w 8 keys → 8 < w.heap.size → w.cell? ⟨p, 0, none⟩ = some (.func (.func 99) #[] #[.pointer (some ⟨p, 0, none⟩)]) →
    Calls Tryd.prog 99 #[.slice a n c, .int .i64 (i : Int), .bool kn, .pointer (some ⟨p, 0, none⟩)] w fun e w' => ∃ v, e = .returned v ∧ w'.ownsRow w.heap.size 9 1 v (prT l i kn).length (svl (prT l i kn)) ∧ Below w.heap.size w w'
  | m, a, c, n, i, kn, l, w, p, hm, hn, hi1, hin, hc, hA, hM, hcM, hx, hk, h0, hcl => by
    by_cases h1 : i = n
    · have d1 : ((i : Int) == (n : Int)) = true := beq_iff_eq.2 (by omega)
      have HP : Hid (prT l i kn = if kn then [] else [rtT l]) := by show _ = _; rw [h1, ← hn]; exact prT_all (by omega) kn
      have HR : Hid (Calls Tryd.prog 35 #[.slice a n c] w fun e w' => e = .returned (.string (rtT l)) ∧ Below w.heap.size w w') := rootI n a c n l w (by omega) hn (by omega) hc hA (by omega) hcM hx hk h0
      clear hA hx h1 hk hcl
      generalize rtT l = T at *
      cases kn
      · go_enter Tryd.func99, Tryd.ntmps99
        go_wp2_with (go_at_call 35; refine Calls.mono HR.out ?_; rintro e w1 ⟨rfl, hB1⟩)
        go_ret
        have z1 := hB1.size
        refine ⟨_, rfl, ?_, hB1.alloc z1 _⟩
        rw [HP.out]
        exact World.ownsRow_lit w1 #[.string T] 1 z1 (by unfold maxLen; omega) rfl
      · clear HR
        go_enter Tryd.func99, Tryd.ntmps99
        go_wp2
        go_ret
        refine ⟨_, rfl, ?_, Below.refl _ _⟩
        rw [HP.out]
        exact own_nilS
    have d1 : ((i : Int) == (n : Int)) = false := beq_eq_false_iff_ne.2 (by omega)
    have h2 : 2 ≤ n := by omega
    match m, hm with
    | 0, hm => omega
    | m + 1, hm =>
    have hl := Mer.half_lt h2
    have hp := Mer.half_pos n
    obtain ⟨b, o, rfl⟩ := hA.base (by omega)
    have l1 : (l.take (Mer.half n)).length = Mer.half n := by rw [List.length_take]; omega
    have l2 : (l.drop (Mer.half n)).length = n - Mer.half n := by rw [List.length_drop]; omega
    have hS : ∀ w0, Calls Tryd.prog 86 #[.slice (some ⟨b, o, none⟩) n c] w0 fun e w' => e = .returned (.tuple #[.slice (some ⟨b, o, none⟩) (Mer.half n) (Mer.half n), .slice (some ⟨b, o + Mer.half n, none⟩) (n - Mer.half n) (n - Mer.half n)]) ∧ Below w0.heap.size w0 w' := fun w0 => splitI b o c n w0 h2 hc (by omega)
    have HS : Hid (KpP w (some ⟨b, o, none⟩) l p (.func (.func 99) #[] #[.pointer (some ⟨p, 0, none⟩)]) w) := KpP.mk (KpT.mk (Below.refl _ _) hA hk h0) hcl
    clear hcl
    by_cases hik : i ≤ Mer.half n
    · have hR1 : ∀ w0, Hid (KpP w (some ⟨b, o, none⟩) l p (.func (.func 99) #[] #[.pointer (some ⟨p, 0, none⟩)]) w0) → Calls Tryd.prog 99 #[.slice (some ⟨b, o, none⟩) (Mer.half n) (Mer.half n), .int .i64 (i : Int), .bool kn, .pointer (some ⟨p, 0, none⟩)] w0 fun e w' => ∃ v, e = .returned v ∧ w'.ownsRow w0.heap.size 9 1 v (prT (l.take (Mer.half n)) i kn).length (svl (prT (l.take (Mer.half n)) i kn)) ∧ Below w0.heap.size w0 w' := fun w0 h =>
        proofI m (some ⟨b, o, none⟩) (Mer.half n) (Mer.half n) i kn (l.take (Mer.half n)) w0 p (by omega) l1 (by omega) (by omega) (by omega) (h.out.k.sa.take _) (by omega) (by omega) (fun x hx' => hx x (List.mem_of_mem_take hx')) h.out.k.arr h.out.k.pos h.out.c
      have hR2 : ∀ w0, Hid (KpP w (some ⟨b, o, none⟩) l p (.func (.func 99) #[] #[.pointer (some ⟨p, 0, none⟩)]) w0) → Calls Tryd.prog 35 #[.slice (some ⟨b, o + Mer.half n, none⟩) (n - Mer.half n) (n - Mer.half n)] w0 fun e w' => e = .returned (.string (rtT (l.drop (Mer.half n)))) ∧ Below w0.heap.size w0 w' := fun w0 h =>
        rootI n (some ⟨b, o + Mer.half n, none⟩) (n - Mer.half n) (n - Mer.half n) (l.drop (Mer.half n)) w0 (by omega) l2 (by omega) (by omega) (h.out.k.sa.drop _) (by omega) (by omega) (fun x hx' => hx x (List.mem_of_mem_drop hx')) h.out.k.arr h.out.k.pos
      have HE : Hid (prT l i kn = prT (l.take (Mer.half n)) i kn ++ [rtT (l.drop (Mer.half n))]) := by show _ = _; rw [prT_lo hi1 (by omega) (by rw [hn]; exact hik), hn]
      have hP1 : (prT (l.take (Mer.half n)) i kn).length + 1 ≤ 1000000 := by have := prT_len (l := (l.take (Mer.half n))) (by omega) (k := i) (by omega) (by omega) kn; omega
      generalize prT (l.take (Mer.half n)) i kn = P1 at *
      generalize rtT (l.drop (Mer.half n)) = T2 at *
      generalize Mer.half n = k at *
      have hik' : (i : Int) ≤ (k : Int) := by omega
      clear hA hx l1 l2 hk
      go_enter Tryd.func99, Tryd.ntmps99
      go_wp2_with (first
        | (go_at_call 86; refine (hS _).mono ?_; rintro e w5 ⟨rfl, h5⟩; have HS5 := KpP.hid HS h5; have hcl5 := HS5.out.c)
        | (go_at_call 99; with_reducible refine (hR1 _ HS5).mono ?_; rintro e w6 ⟨v6, rfl, hO6, h6⟩; have HS6 := KpP.hid HS5 h6)
        | (go_at_call 35; refine (hR2 _ HS6).mono ?_; rintro e w7 ⟨rfl, h7⟩; have HS7 := KpP.hid HS6 h7; have hO7 := own_below hO6 h7; have hO8 : Hid ((w7.alloc (.cells #[.string T2] 9)).ownsRow w.heap.size 9 1 v6 P1.length (svl P1)) := (own_from hO7 (Nat.le_trans HS5.out.k.below.size (Nat.le_refl _))).alloc (.cells #[.string T2] 9); have hx8 : Hid (SA (w7.alloc (.cells #[.string T2] 9)) (some ⟨w7.heap.size, 0, none⟩) [T2]) := lit_sa1 w7 T2 9; have B8 : Hid (Below w.heap.size w (w7.alloc (.cells #[.string T2] 9))) := HS7.out.k.below.alloc HS7.out.k.below.size _; clear hO6 hO7 hcl5)
        | (at_builtin; with_reducible refine wpList_append_strs rfl _ _ rfl w.heap.size v6 P1.length 1 P1 [T2] rfl hO8.out w7.heap.size 0 1 rfl rfl hx8.out hP1 B8.out.size ?_; intro v9 w9 hO9 hB9 hv9))
      go_ret
      refine ⟨v9, rfl, ?_, B8.out.trans hB9⟩
      rw [HE.out, List.length_append]
      exact hO9
    · have hR1 : ∀ w0, Hid (KpP w (some ⟨b, o, none⟩) l p (.func (.func 99) #[] #[.pointer (some ⟨p, 0, none⟩)]) w0) → Calls Tryd.prog 99 #[.slice (some ⟨b, o + Mer.half n, none⟩) (n - Mer.half n) (n - Mer.half n), .int .i64 ((i - Mer.half n : Nat) : Int), .bool false, .pointer (some ⟨p, 0, none⟩)] w0 fun e w' => ∃ v, e = .returned v ∧ w'.ownsRow w0.heap.size 9 1 v (prT (l.drop (Mer.half n)) (i - Mer.half n) false).length (svl (prT (l.drop (Mer.half n)) (i - Mer.half n) false)) ∧ Below w0.heap.size w0 w' := fun w0 h =>
        proofI m (some ⟨b, o + Mer.half n, none⟩) (n - Mer.half n) (n - Mer.half n) (i - Mer.half n) false (l.drop (Mer.half n)) w0 p (by omega) l2 (by omega) (by omega) (by omega) (h.out.k.sa.drop _) (by omega) (by omega) (fun x hx' => hx x (List.mem_of_mem_drop hx')) h.out.k.arr h.out.k.pos h.out.c
      have hR2 : ∀ w0, Hid (KpP w (some ⟨b, o, none⟩) l p (.func (.func 99) #[] #[.pointer (some ⟨p, 0, none⟩)]) w0) → Calls Tryd.prog 35 #[.slice (some ⟨b, o, none⟩) (Mer.half n) (Mer.half n)] w0 fun e w' => e = .returned (.string (rtT (l.take (Mer.half n)))) ∧ Below w0.heap.size w0 w' := fun w0 h =>
        rootI n (some ⟨b, o, none⟩) (Mer.half n) (Mer.half n) (l.take (Mer.half n)) w0 (by omega) l1 (by omega) (by omega) (h.out.k.sa.take _) (by omega) (by omega) (fun x hx' => hx x (List.mem_of_mem_take hx')) h.out.k.arr h.out.k.pos
      have HE : Hid (prT l i kn = prT (l.drop (Mer.half n)) (i - Mer.half n) false ++ [rtT (l.take (Mer.half n))]) := by show _ = _; rw [prT_hi hi1 (by omega) (by rw [hn]; omega), hn]
      have hP1 : (prT (l.drop (Mer.half n)) (i - Mer.half n) false).length + 1 ≤ 1000000 := by have := prT_len (l := (l.drop (Mer.half n))) (by omega) (k := (i - Mer.half n)) (by omega) (by omega) false; omega
      generalize prT (l.drop (Mer.half n)) (i - Mer.half n) false = P1 at *
      generalize rtT (l.take (Mer.half n)) = T2 at *
      generalize Mer.half n = k at *
      obtain ⟨j, hj⟩ : ∃ j : Nat, i - k = j := ⟨_, rfl⟩
      have es : (i : Int) - (k : Int) = (j : Int) := by omega
      rw [hj] at hR1
      have hik' : ¬ (i : Int) ≤ (k : Int) := by omega
      clear hA hx l1 l2 hk
      go_enter Tryd.func99, Tryd.ntmps99
      go_wp2_with (first
        | (go_at_call 86; refine (hS _).mono ?_; rintro e w5 ⟨rfl, h5⟩; have HS5 := KpP.hid HS h5; have hcl5 := HS5.out.c)
        | (go_at_call 99; with_reducible refine (hR1 _ HS5).mono ?_; rintro e w6 ⟨v6, rfl, hO6, h6⟩; have HS6 := KpP.hid HS5 h6)
        | (go_at_call 35; refine (hR2 _ HS6).mono ?_; rintro e w7 ⟨rfl, h7⟩; have HS7 := KpP.hid HS6 h7; have hO7 := own_below hO6 h7; have hO8 : Hid ((w7.alloc (.cells #[.string T2] 9)).ownsRow w.heap.size 9 1 v6 P1.length (svl P1)) := (own_from hO7 (Nat.le_trans HS5.out.k.below.size (Nat.le_refl _))).alloc (.cells #[.string T2] 9); have hx8 : Hid (SA (w7.alloc (.cells #[.string T2] 9)) (some ⟨w7.heap.size, 0, none⟩) [T2]) := lit_sa1 w7 T2 9; have B8 : Hid (Below w.heap.size w (w7.alloc (.cells #[.string T2] 9))) := HS7.out.k.below.alloc HS7.out.k.below.size _; clear hO6 hO7 hcl5)
        | (at_builtin; with_reducible refine wpList_append_strs rfl _ _ rfl w.heap.size v6 P1.length 1 P1 [T2] rfl hO8.out w7.heap.size 0 1 rfl rfl hx8.out hP1 B8.out.size ?_; intro v9 w9 hO9 hB9 hv9))
      go_ret
      refine ⟨v9, rfl, ?_, B8.out.trans hB9⟩
      rw [HE.out, List.length_append]
      exact hO9
end Go.Proofs.YtdfglpbappeoaabDoor
