/- A number put into a rising row, on the specification's side. -/
import Derived.Test.YtmahpmjkejnkfaaRoM
import Derived.Test.YtmahpmjkejnkfaaOwnI
import Derived.Test.YtmahpmjkejnkfaaRlL
import Derived.Deep.Upon
import Derived.Deep.AppendSrc
namespace Go.Proofs.Ytmahpmjkejnkfaa
open Go.RowKit
set_option linter.unusedVariables false

theorem own0 (w : World) : OwnI (w.alloc (.cells #[] 2)) w.heap.size (.slice (some ⟨w.heap.size, 0, none⟩) 0 0) [] :=
  ⟨rfl, .inr ⟨w.heap.size, 0, #[], rfl, Nat.le_refl _, heap_alloc_new w _, Nat.le_refl _, Nat.zero_le _, rfl, rfl⟩⟩
theorem sliceLoI (ad : Option Addr) (n c k : Nat) (h : k ≤ n) (hc : n ≤ c) (hnil : ad = none → c = 0) (hsp : ∀ x, ad = some x → x.spot = none) (w : World) : ∃ ad', (Instr.slice 50 (.slice ad n c) none (some (.int .i64 (k : Int))) none).run Try.prog w = .ok (.slice ad' k c) w ∧ (0 < k → ad' = ad) := by
  have h1 : (k : Int) ≤ c := by omega
  cases ad with
  | none =>
    have h0 := hnil rfl
    subst h0
    obtain rfl : k = 0 := by omega
    exact ⟨none, by simp [Instr.slice, run_underlying Try.underlying50, Instr.sliceBounds, run_sliceBound], fun h => absurd h (Nat.lt_irrefl _)⟩
  | some x =>
    obtain ⟨b, o, sp⟩ := x
    have := hsp _ rfl
    simp only at this
    subst this
    refine ⟨some ⟨b, o, none⟩, ?_, fun _ => rfl⟩
    simp [Instr.slice, run_underlying Try.underlying50, Instr.sliceBounds, run_sliceBound, h1]
    intro _
    exact Addr.add_zero' _
theorem sliceHiI (ad : Option Addr) (n c k : Nat) (h : k ≤ n) (hc : n ≤ c) (hnil : ad = none → c = 0) (hsp : ∀ x, ad = some x → x.spot = none) (w : World) : ∃ ad', (Instr.slice 50 (.slice ad n c) (some (.int .i64 (k : Int))) none none).run Try.prog w = .ok (.slice ad' (n - k) (c - k)) w ∧ (k < n → ∀ b o, ad = some ⟨b, o, none⟩ → ad' = some ⟨b, o + k, none⟩) := by
  have h1 : (k : Int) ≤ n := by omega
  cases ad with
  | none =>
    have h0 := hnil rfl
    subst h0
    obtain rfl : n = 0 := by omega
    obtain rfl : k = 0 := by omega
    exact ⟨none, by simp [Instr.slice, run_underlying Try.underlying50, Instr.sliceBounds, run_sliceBound], fun h => absurd h (Nat.lt_irrefl _)⟩
  | some x =>
    obtain ⟨b, o, sp⟩ := x
    have := hsp _ rfl
    simp only at this
    subst this
    by_cases hk : c = k
    · subst hk
      exact ⟨some ⟨b, o, none⟩, by simp [Instr.slice, run_underlying Try.underlying50, Instr.sliceBounds, run_sliceBound, h1], fun h => absurd h (by omega)⟩
    · refine ⟨some ⟨b, o + k, none⟩, ?_, fun _ b' o' e => ?_⟩
      · simp [Instr.slice, run_underlying Try.underlying50, Instr.sliceBounds, run_sliceBound, h1, hk, Addr.add_lit]
      · injection e with e
        injection e with e1 e2
        rw [← e1, ← e2]
theorem OwnI.cap {w : World} {base : Nat} {v : Value} {l : List Int} (h : OwnI w base v l) : ∃ a c, v = .slice a l.length c ∧ l.length ≤ c := by
  rcases h.2 with ⟨h0, hn⟩ | ⟨g, cap, cur, hv, hbg, hg, h1, h2, h3, h4⟩
  · exact ⟨none, 0, by rw [h0, hn], by omega⟩
  · exact ⟨_, cap, hv, h1⟩
set_option maxRecDepth 100000 in
theorem wpList_appendM {ops : Array Oper} {rest : List Oper} {W : World} {o : Oper} {a : Act} {Q : Exit → Act → World → Prop} (hg : o.guard = none) (s x : Operand) (ho : o.op = .call { callee := .builtin .append, args := #[s, x], argTypes := #[50, 50] })
    (base : Nat) (v : Value) (l : List Int) (ad : Option Addr) (n c : Nat) (m : List Int) (hs : a.eval s = v) (hown : OwnI W base v l) (hx : a.eval x = .slice ad n c) (hm : m.length = n) (hA : AI W ad m) (hn : l.length + n ≤ 1000000) (hbase : base ≤ W.heap.size)
    (h : ∀ v' w', OwnI w' base v' (l ++ m) → Below base W w' → base ≤ w'.heap.size → wpList Try.prog ops Q rest (a.put o.dst v') w') : wpList Try.prog ops Q (o :: rest) a W := by
  by_cases h0 : n = 0
  · subst h0
    have : m = [] := List.eq_nil_of_length_eq_zero hm
    subst this
    obtain ⟨i0, hi, hz0, hz1, hz2⟩ := info_parts Try.infoNumI
    obtain ⟨p, cp, rfl, hle⟩ := hown.cap
    have hsrc : Src Try.prog i0.size 50 (.slice ad 0 c) 0 [] W := by
      cases ad with
      | none => exact Src.ofNil W Try.underlying50 c
      | some q => exact Src.ofSlice W Try.underlying50 q 0 c [] (by simp) (by simp) (by simp)
    have hr := run_append_nothing (P := Try.prog) W 50 50 o.type 2 i0 Try.underlying50 hi p l.length cp hle (.slice ad 0 c) hsrc
    refine wpList_plain hg fun K hK => ?_
    unfold Oper.wp execOp
    simp only [ho, resolve, invoke, builtin, Sem.run_bind, Sem.run_pure, Result.andThen_ok, List.map_toArray, List.map_cons, List.map_nil, hs, hx, hr]
    exact hK _ _ (h _ W (by rw [List.append_nil]; exact hown) (Below.refl _ _) hbase)
  · obtain ⟨b, of, rfl, _⟩ := hA 0 (by omega)
    exact wpList_appendI hg s x ho base v l b of n c m hs hown hx hm hA hn hbase (fun v' w' h1 h2 _ => h v' w' h1 (hown.grown h2 hbase) (Nat.le_trans hbase h2.size))
set_option maxRecDepth 100000 in
theorem wpList_sliceLoI {ops : Array Oper} {rest : List Oper} {w : World} {o : Oper} {a : Act} {Q : Exit → Act → World → Prop} (hg : o.guard = none) (x y : Operand) (ho : o.op = .slice 50 x none (some y) none) (ad : Option Addr) (n c k : Nat) (hx : a.eval x = .slice ad n c) (hy : a.eval y = .int .i64 (k : Int)) (h : k ≤ n) (hc : n ≤ c) (hnil : ad = none → c = 0) (hsp : ∀ x, ad = some x → x.spot = none)
    (hK : ∀ ad', (0 < k → ad' = ad) → wpList Try.prog ops Q rest (a.put o.dst (.slice ad' k c)) w) : wpList Try.prog ops Q (o :: rest) a w := by
  obtain ⟨ad', hr, h2⟩ := sliceLoI ad n c k h hc hnil hsp w
  refine wpList_plain hg fun K hK' => ?_
  unfold Oper.wp
  simp only [execOp, ho, Option.map_some, Option.map_none, hx, hy, Instr.sliceAt, run_underlying Try.underlying50, hr, Sem.run_bind, Sem.run_pure, Result.andThen_ok]
  exact hK' _ _ (hK ad' h2)
set_option maxRecDepth 100000 in
theorem wpList_sliceHiI {ops : Array Oper} {rest : List Oper} {w : World} {o : Oper} {a : Act} {Q : Exit → Act → World → Prop} (hg : o.guard = none) (x y : Operand) (ho : o.op = .slice 50 x (some y) none none) (ad : Option Addr) (n c k : Nat) (hx : a.eval x = .slice ad n c) (hy : a.eval y = .int .i64 (k : Int)) (h : k ≤ n) (hc : n ≤ c) (hnil : ad = none → c = 0) (hsp : ∀ x, ad = some x → x.spot = none)
    (hK : ∀ ad', (k < n → ∀ b o, ad = some ⟨b, o, none⟩ → ad' = some ⟨b, o + k, none⟩) → wpList Try.prog ops Q rest (a.put o.dst (.slice ad' (n - k) (c - k))) w) : wpList Try.prog ops Q (o :: rest) a w := by
  obtain ⟨ad', hr, h2⟩ := sliceHiI ad n c k h hc hnil hsp w
  refine wpList_plain hg fun K hK' => ?_
  unfold Oper.wp
  simp only [execOp, ho, Option.map_some, Option.map_none, hx, hy, Instr.sliceAt, run_underlying Try.underlying50, hr, Sem.run_bind, Sem.run_pure, Result.andThen_ok]
  exact hK' _ _ (hK ad' h2)
theorem ai_take {w : World} {ad ad' : Option Addr} {l : List Int} {k : Nat} (h : AI w ad l) (he : 0 < k → ad' = ad) : AI w ad' (l.take k) := fun i hi => by
  rw [List.length_take] at hi
  obtain ⟨b, o, e, hc⟩ := h i (by omega)
  exact ⟨b, o, by rw [he (by omega), e], by rw [hc, List.getElem_take]⟩
theorem ai_drop {w : World} {ad ad' : Option Addr} {l : List Int} {k : Nat} (h : AI w ad l) (he : k < l.length → ∀ b o, ad = some ⟨b, o, none⟩ → ad' = some ⟨b, o + k, none⟩) : AI w ad' (l.drop k) := fun i hi => by
  rw [List.length_drop] at hi
  obtain ⟨b, o, e, hc⟩ := h (k + i) (by omega)
  exact ⟨b, o + k, he (by omega) b o e, by rw [Nat.add_assoc, hc, List.getElem_drop]⟩
theorem take_len {l : List Int} {n k : Nat} (h : Hid (l.length = n)) (hk : k ≤ n) : (l.take k).length = k := by rw [List.length_take, h.out]; omega
theorem drop_len {l : List Int} {n k : Nat} (h : Hid (l.length = n)) : (l.drop k).length = n - k := by rw [List.length_drop, h.out]
theorem drop_lt {l : List Int} {n k : Nat} (h : Hid (l.length = n)) (hk : k < l.length) : k < n := by rw [← h.out]; exact hk
theorem len_take1 {l : List Int} {n k : Nat} (h : Hid (l.length = n)) (hk : k ≤ n) (hb : n ≤ 1000) : ([] ++ l.take k).length + 1 ≤ 1000000 := by rw [List.nil_append, take_len h hk]; omega
theorem len_take2 {l : List Int} {n k : Nat} {x : Int} (h : Hid (l.length = n)) (hk : k ≤ n) (hb : n ≤ 1000) : ([] ++ l.take k ++ [x]).length + (n - k) ≤ 1000000 := by rw [List.nil_append, List.length_append, take_len h hk, List.length_singleton]; omega
theorem ownI_ai {w : World} {base n c : Nat} {a : Option Addr} {l : List Int} (h : OwnI w base (.slice a n c) l) : AI w a l := by
  obtain ⟨a', c', e, hi, _⟩ := h.form
  injection e with e1 e2 e3
  subst e1
  exact hi.ai
theorem ownI_nil2 {w : World} {base n c : Nat} {a : Option Addr} {l : List Int} (h : OwnI w base (.slice a n c) l) : a = none → c = 0 := by
  rcases h.2 with ⟨h0, hn⟩ | ⟨g, cap, cur, hv, hbg, hg, h1, h2, h3, h4⟩
  · injection h0 with e1 e2 e3
    exact fun _ => e3
  · injection hv with e1 e2 e3
    intro e
    rw [e] at e1
    cases e1
theorem ownI_blk {w : World} {base n c : Nat} {a : Option Addr} {l : List Int} (h : OwnI w base (.slice a n c) l) : ∀ y, a = some y → base ≤ y.block := by
  obtain ⟨a', c', e, _, hb⟩ := h.form
  injection e with e1 e2 e3
  subst e1
  exact fun y hy => (hb y hy).1
theorem ownI_spot {w : World} {base n c : Nat} {a : Option Addr} {l : List Int} (h : OwnI w base (.slice a n c) l) : ∀ y, a = some y → y.spot = none := by
  rcases h.2 with ⟨h0, hn⟩ | ⟨g, cap, cur, hv, hbg, hg, h1, h2, h3, h4⟩
  · injection h0 with e1 e2 e3
    intro y e
    rw [e] at e1
    cases e1
  · injection hv with e1 e2 e3
    intro y e
    rw [e] at e1
    injection e1 with e1
    rw [e1]
set_option maxRecDepth 100000 in
set_option maxHeartbeats 2000000 in
theorem specPutL (a : Option Addr) (c n : Nat) (l : List Int) (x : Int) (w : World) (hn : l.length = n) (h : AI w a l) (hb : n ≤ 1000) (hc : n ≤ c) (hnil : a = none → c = 0) (hsp : ∀ y, a = some y → y.spot = none) :
    Calls Try.prog 60 #[.slice a n c, .int .i64 x] w fun r w' => ∃ a' c', r = .returned (.slice a' (putL l x).length c') ∧ AI w' a' (putL l x) ∧ (putL l x).length ≤ c' ∧ (a' = none → c' = 0) ∧ (∀ y, a' = some y → y.spot = none) ∧ (a' = a ∨ ∀ y, a' = some y → w.heap.size ≤ y.block) ∧ Below w.heap.size w w' := by
  have HN : Hid (l.length = n) := hn
  have HA : Hid (AI w a l) := h
  have HP : Hid (∀ k, k ≤ l.length → (∀ j (hj : j < l.length), j < k → l[j] < x) → (∀ h : k < l.length, x ≤ l[k]) → putL l x = if l[k]? = some x then l else l.take k ++ [x] ++ l.drop k) := fun k h1 h2 h3 => by unfold putL; rw [putAt_is h1 h2 h3]
  clear hn h
  go_enter Try.func60, Try.ntmps60
  go_wp2_with fail
  go_loopw [5] (fun vk wr => ∃ k : Nat, vk = .int .i64 (k : Int) ∧ k ≤ n ∧ w = wr ∧ Hid (∀ j (hj : j < l.length), j < k → l[j] < x)) (fun vk _ => n - (intOf vk).toNat)
  case atStart => exact ⟨0, rfl, Nat.zero_le _, rfl, fun j hj h0 => absurd h0 (Nat.not_lt_zero _)⟩
  case round =>
    obtain ⟨k, rfl, hk, rfl, HT⟩ := hrel
    by_cases hlt : k < n
    case neg =>
      obtain rfl : n = k := by omega
      have HE : Hid (putL l x = l.take l.length ++ [x] ++ l.drop l.length) := by
        show _ = _
        rw [HP.out l.length (Nat.le_refl _) (fun j hj hjk => HT.out j hj (by have := HN.out; omega)) (fun h => absurd h (Nat.lt_irrefl _)), List.getElem?_eq_none (Nat.le_refl _)]
        rfl
      rw [HN.out] at HE
      go_wp2_with (first
        | (with_reducible refine wpList_sliceLoI (by with_unfolding_all rfl) (.tmp 35) (.tmp 36) (by with_unfolding_all rfl) a n c n (by with_unfolding_all rfl) (by with_unfolding_all rfl) hk hc hnil hsp ?_; intro ad1 had1; have A1 := hidP (ai_take (HA.out.below (below_alloc w (.cells #[] 2))) had1))
        | (with_reducible refine wpList_appendM (W := w.alloc (.cells #[] 2)) (by with_unfolding_all rfl) (.tmp 34) (.tmp 37) (by with_unfolding_all rfl) w.heap.size (.slice (some ⟨w.heap.size, 0, none⟩) 0 0) [] ad1 n c (l.take n) (by with_unfolding_all rfl) (own0 w) (by with_unfolding_all rfl) (take_len HN hk) A1.out (by simp only [List.length_nil]; omega) (Nat.le_of_lt (by rw [szA]; omega)) ?_; intro v2 w2 hO2 hB2 hz2; have O2 := hidP hO2; have B2 := hidP ((below_alloc w (.cells #[] 2)).trans hB2); clear hO2 hB2)
        | (with_reducible refine wpList_buildI (w := w2) (by with_unfolding_all rfl) (.tmp 40) (by with_unfolding_all rfl) x (by with_unfolding_all rfl) ?_; intro w3 hA3 hB3; have O3 := hidP (O2.out.below hB3); have A3 := hidP (ai_one hA3); have z3 := hB3.size; have B3 := hidP (B2.out.trans (hB3.mono hz2)); clear hA3 hB3)
        | (with_reducible refine wpList_appendM (W := w3) (by with_unfolding_all rfl) (.tmp 39) (.tmp 41) (by with_unfolding_all rfl) w.heap.size v2 ([] ++ l.take n) (some ⟨w2.heap.size, 0, none⟩) 1 1 [x] (by with_unfolding_all rfl) O3.out (by with_unfolding_all rfl) rfl A3.out (len_take1 HN hk hb) (Nat.le_trans hz2 z3) ?_; intro v4 w4 hO4 hB4 hz4; have O4 := hidP hO4; have B4 := hidP (B3.out.trans hB4); clear hO4 hB4)
        | (with_reducible refine wpList_sliceHiI (by with_unfolding_all rfl) (.tmp 44) (.tmp 45) (by with_unfolding_all rfl) a n c n (by with_unfolding_all rfl) (by with_unfolding_all rfl) hk hc hnil hsp ?_; intro ad5 had5; have A5 := hidP (ai_drop (HA.out.below B4.out) (fun hh => had5 (drop_lt HN hh))))
        | (with_reducible refine wpList_appendM (W := w4) (by with_unfolding_all rfl) (.tmp 43) (.tmp 46) (by with_unfolding_all rfl) w.heap.size v4 ([] ++ l.take n ++ [x]) ad5 (n - n) (c - n) (l.drop n) (by with_unfolding_all rfl) O4.out (by with_unfolding_all rfl) (drop_len HN) A5.out (len_take2 HN hk hb) hz4 ?_; intro v6 w6 hO6 hB6 hz6; have O6 := hidP hO6; have B6 := hidP (B4.out.trans hB6); clear hO6 hB6))
      have hO : OwnI w6 w.heap.size v6 (putL l x) := by rw [HE.out]; exact O6.out
      obtain ⟨a7, c7, rfl, hl7⟩ := hO.cap
      go_ret
      exact ⟨a7, c7, rfl, ownI_ai hO, hl7, ownI_nil2 hO, ownI_spot hO, .inr (ownI_blk hO), B6.out⟩
    have hkl : k < l.length := by have := HN.out; omega
    obtain ⟨b, o, rfl, hcl⟩ := HA.out k hkl
    have lk : (k : Int) < n := by omega
    have l0 : (0 : Int) ≤ k := by omega
    by_cases hx : l[k] < x
    · have HT2 : Hid (∀ j (hj : j < l.length), j < k + 1 → l[j] < x) := fun j hj hjk => by
        by_cases hjk2 : j < k
        · exact HT.out j hj hjk2
        · obtain rfl : j = k := by omega
          exact hx
      clear HT
      generalize l[k] = y at *
      go_wp2
      go_roundw
      case rel => exact ⟨k + 1, by go_num, by omega, by first | rfl | trivial, HT2⟩
      case measure => simp [intOf]; omega
    · have hP := HP.out k (by omega) HT.out (fun _ => by omega)
      by_cases he : l[k] = x
      · have HE : Hid (putL l x = l) := by show _ = _; rw [hP, if_pos (by rw [List.getElem?_eq_getElem hkl, he])]
        rw [he] at hcl
        clear hP hx he
        have ex : (x == x) = true := by simp
        go_wp2
        go_ret
        exact ⟨_, c, by rw [HE.out, HN.out]; rfl, by rw [HE.out]; exact HA.out, by rw [HE.out, HN.out]; exact hc, (fun e => by cases e), hsp, .inl rfl, Below.refl _ _⟩
      · have HE : Hid (putL l x = l.take k ++ [x] ++ l.drop k) := by show _ = _; rw [hP, if_neg (by rw [List.getElem?_eq_getElem hkl]; intro e; injection e with e; exact he e)]
        have exy : (l[k] == x) = false := beq_eq_false_iff_ne.2 he
        clear hP he
        generalize l[k] = y at *
        go_wp2_with (first
          | (with_reducible refine wpList_sliceLoI (by with_unfolding_all rfl) (.tmp 35) (.tmp 36) (by with_unfolding_all rfl) (some ⟨b, o, none⟩) n c k (by with_unfolding_all rfl) (by with_unfolding_all rfl) hk hc hnil hsp ?_; intro ad1 had1; have A1 := hidP (ai_take (HA.out.below (below_alloc w (.cells #[] 2))) had1))
          | (with_reducible refine wpList_appendM (W := w.alloc (.cells #[] 2)) (by with_unfolding_all rfl) (.tmp 34) (.tmp 37) (by with_unfolding_all rfl) w.heap.size (.slice (some ⟨w.heap.size, 0, none⟩) 0 0) [] ad1 k c (l.take k) (by with_unfolding_all rfl) (own0 w) (by with_unfolding_all rfl) (take_len HN hk) A1.out (by simp only [List.length_nil]; omega) (Nat.le_of_lt (by rw [szA]; omega)) ?_; intro v2 w2 hO2 hB2 hz2; have O2 := hidP hO2; have B2 := hidP ((below_alloc w (.cells #[] 2)).trans hB2); clear hO2 hB2)
          | (with_reducible refine wpList_buildI (w := w2) (by with_unfolding_all rfl) (.tmp 40) (by with_unfolding_all rfl) x (by with_unfolding_all rfl) ?_; intro w3 hA3 hB3; have O3 := hidP (O2.out.below hB3); have A3 := hidP (ai_one hA3); have z3 := hB3.size; have B3 := hidP (B2.out.trans (hB3.mono hz2)); clear hA3 hB3)
          | (with_reducible refine wpList_appendM (W := w3) (by with_unfolding_all rfl) (.tmp 39) (.tmp 41) (by with_unfolding_all rfl) w.heap.size v2 ([] ++ l.take k) (some ⟨w2.heap.size, 0, none⟩) 1 1 [x] (by with_unfolding_all rfl) O3.out (by with_unfolding_all rfl) rfl A3.out (len_take1 HN hk hb) (Nat.le_trans hz2 z3) ?_; intro v4 w4 hO4 hB4 hz4; have O4 := hidP hO4; have B4 := hidP (B3.out.trans hB4); clear hO4 hB4)
          | (with_reducible refine wpList_sliceHiI (by with_unfolding_all rfl) (.tmp 44) (.tmp 45) (by with_unfolding_all rfl) (some ⟨b, o, none⟩) n c k (by with_unfolding_all rfl) (by with_unfolding_all rfl) hk hc hnil hsp ?_; intro ad5 had5; have A5 := hidP (ai_drop (HA.out.below B4.out) (fun hh => had5 (drop_lt HN hh))))
          | (with_reducible refine wpList_appendM (W := w4) (by with_unfolding_all rfl) (.tmp 43) (.tmp 46) (by with_unfolding_all rfl) w.heap.size v4 ([] ++ l.take k ++ [x]) ad5 (n - k) (c - k) (l.drop k) (by with_unfolding_all rfl) O4.out (by with_unfolding_all rfl) (drop_len HN) A5.out (len_take2 HN hk hb) hz4 ?_; intro v6 w6 hO6 hB6 hz6; have O6 := hidP hO6; have B6 := hidP (B4.out.trans hB6); clear hO6 hB6))
        have hO : OwnI w6 w.heap.size v6 (putL l x) := by rw [HE.out]; exact O6.out
        obtain ⟨a7, c7, rfl, hl7⟩ := hO.cap
        go_ret
        exact ⟨a7, c7, rfl, ownI_ai hO, hl7, ownI_nil2 hO, ownI_spot hO, .inr (ownI_blk hO), B6.out⟩
end Go.Proofs.Ytmahpmjkejnkfaa
