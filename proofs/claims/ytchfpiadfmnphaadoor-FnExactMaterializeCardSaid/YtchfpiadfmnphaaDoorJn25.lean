/- The program's face that reads a whole text: what its deferred function does; readWhole of a link. readWhole of a link, on the program's side. The program's reader of a manifest. -/
import Derived.Test.YtchfpiadfmnphaaDoorJn12
import Derived.Defers
import Derived.Recover
import Derived.Test.YtchfpiadfmnphaaDoorJn6
import Derived.Test.YtchfpiadfmnphaaDoorMfI
import Derived.Deep.RegionHeld3
namespace Go.Proofs.YtchfpiadfmnphaaDoor
open Go.RowKit
set_option linter.unusedVariables false

def i1v (c : Int) : List Value := [.int .i64 c]
theorem i1v_ne (c : Int) : i1v c ≠ [] := by simp [i1v]
end Go.Proofs.YtchfpiadfmnphaaDoor
namespace Go.Proofs.YtchfpiadfmnphaaDoor
open Go.RowKit
set_option linter.unusedVariables false

theorem wpList_alloc1 {P : Program} {ops : Array Oper} {rest : List Oper} {o : Oper} {a : Act} {w : World} {Q : Exit → Act → World → Prop} (hg : o.guard = none) (t : TypeId) (ho : o.op = .alloc t) (z : Int)
    (hi : (P.info? t).map (fun i => i.zero) = some (some (.int .i64 z)))
    (h : ∀ w', RowV w' w.heap.size (i1v z) → Below w.heap.size w w' → w'.heap.size = w.heap.size + 1 → wpList P ops Q rest (a.put o.dst (.pointer (some ⟨w.heap.size, 0, none⟩))) w') : wpList P ops Q (o :: rest) a w := by
  refine wpList_plain hg fun K hK => ?_
  cases hq : P.info? t with
  | none => simp [hq] at hi
  | some i =>
    have hz : i.zero = some (.int .i64 z) := by simpa [hq] using hi
    unfold Oper.wp execOp
    simp only [ho, Sem.run_bind, Instr.alloc, zeroValue, run_typeInfo w hq, hz, newVar, newRow, run_newObj_alloc, Sem.run_pure, Result.andThen_ok]
    exact hK _ _ (h _ (RowV.new w (i1v z) t) ((Below.refl _ _).alloc (Nat.le_refl _) _) (Array.size_push _))
theorem Tryd.zeroI : (Tryd.prog.info? 2).map (fun i => i.zero) = some (some (.int .i64 0)) := by kernel_rfl
theorem results_V2 {P : Program} {fn : Func} {a b : Tmp} {t t2 : TypeId} {w : World} (h : fn.results = #[.cell a t, .cell b t2]) (tmps : Array Value) (g : Nat) (l : List Value) (hx : tmps.getD a undef = .pointer (some ⟨g, 0, none⟩))
    (hl : RowV w g l) (hu : ∃ d, P.underlying t = some d ∧ d.isRow = true) (n : Nat) (hi : (P.info? t).map (·.size) = some n) (hn : l.length = n) (g2 : Nat) (c : Int) (hx2 : tmps.getD b undef = .pointer (some ⟨g2, 0, none⟩)) (hl2 : RowV w g2 (i1v c)) (ht2 : P.underlying t2 = some (.int .i64)) :
    (results fn tmps).run P w = .ok (.tuple #[.agg l.toArray, .int .i64 c]) w := by
  obtain ⟨d, hd, hr⟩ := hu
  have := run_loadVar_mid (P := P) w g 0 t l d hl.rng hd hr (by rw [hn]; exact hi)
  rw [Array.getD_eq_getD_getElem?] at hx hx2
  have hc : w.cell? ⟨g2, 0, none⟩ = some (.int .i64 c) := hl2.cell (k := 0) rfl
  have h2 : (loadVar t2 ⟨g2, 0, none⟩).run P w = .ok (.int .i64 c) w := by simp [loadVar, isAgg, run_underlying ht2, go_sem, hc]
  simp [results, h, hx, hx2, asAddr, this, h2]
theorem leaves_tmps {P : Program} {fn : Func} {tmps tmps' : Array Value} {R : Ending → World → Prop} (h : results fn tmps = results fn tmps') : ∀ (ds : List Deferred) (u : FrameMode) (w : World), Leaves P fn tmps R ds u w → Leaves P fn tmps' R ds u w
  | [], .returning, w, hL => by
    obtain ⟨v, h1, h2⟩ := hL
    exact ⟨v, by rw [← h]; exact h1, h2⟩
  | [], .panicking chain, w, hL => hL
  | [], .run, w, hL => hL
  | d :: ds, u, w, hL => by
    obtain ⟨h0, fv, cap, f, args, h1, h2, h3⟩ := hL
    refine ⟨h0, fv, cap, f, args, h1, h2, h3.mono (fun e u' w' hh => ?_)⟩
    cases e with
    | returned v => exact leaves_tmps h ds _ _ hh
    | panicked c => exact leaves_tmps h ds _ _ hh
    | outgrown => exact hh
theorem pair_ret {a b : Value} {x y : Value} (h1 : a = x) (h2 : b = y) : Ending.returned (.tuple #[a, b]) = .returned (.tuple #[x, y]) := by rw [h1, h2]
end Go.Proofs.YtchfpiadfmnphaaDoor
namespace Go.Proofs.YtchfpiadfmnphaaDoor
open Go.RowKit
set_option linter.unusedVariables false

/- What the reader tells. -/
def ManT (t : ByteArray) (g : Nat) (R : Option MfRes) (w : World) (e : Ending) (w' : World) : Prop :=
  (∃ nm ls bs q L, R = some (nm, ls, bs, q) ∧ e = .returned (.agg L.toArray) ∧ L.length = 3 ∧ L.all Value.oneCell' = true ∧ ManF L w.heap.size w'.heap.size ∧ (∀ x ∈ ls, x.w) ∧ (∀ x ∈ bs, x.w) ∧ RowV w' g (cuv t q) ∧ Only g w w' ∧ Made w w' (ManQ nm ls bs L)) ∨ (R = none ∧ e = .panicked [{ v := faultV, recovered := false }] ∧ Only g w w')
theorem ManT.no {t : ByteArray} {g : Nat} {R : Option MfRes} {w w' : World} (h : R = none) (ho : Only g w w') : ManT t g R w (.panicked [{ v := faultV, recovered := false }]) w' := Or.inr ⟨h, rfl, ho⟩
theorem ManT.yes {t : ByteArray} {g : Nat} {R : Option MfRes} {w w' : World} {nm : ByteArray} {ls : List LayV} {bs : List LabV} {q : Nat} {L : List Value} (h : R = some (nm, ls, bs, q)) (h1 : L.length = 3) (h2 : L.all Value.oneCell' = true) (h3 : ManF L w.heap.size w'.heap.size) (h4 : ∀ x ∈ ls, x.w) (h5 : ∀ x ∈ bs, x.w) (h6 : RowV w' g (cuv t q)) (h7 : Only g w w') (h8 : Made w w' (ManQ nm ls bs L)) : ManT t g R w (.returned (.agg L.toArray)) w' := Or.inl ⟨nm, ls, bs, q, L, h, rfl, h1, h2, h3, h4, h5, h6, h7, h8⟩
theorem apart_own {G : List Nat} {w0 w : World} {R : List (Nat × List Value)} {T : List Thing} {a1 a2 : Option Addr} {n1 c1 n2 c2 i j : Nat} {P1 P2 : World → Prop} (h : Hid (Sta G w0 R T w)) (hi : T[i]? = some ⟨fun k => (Value.slice a1 n1 c1).ownBlock = some k, P1⟩) (hj : T[j]? = some ⟨fun k => (Value.slice a2 n2 c2).ownBlock = some k, P2⟩) (hij : i < j) : ∀ x y, a1 = some x → a2 = some y → x.block ≠ y.block := fun x y e1 e2 e => by
  subst e1 e2
  exact Sta.apart h hi hj hij x.block rfl (by show some y.block = some x.block; rw [e])
theorem Made.and' {w0 w' : World} {P Q : World → Prop} (h : Made w0 w' P) (k : Made w0 w' Q) : Made w0 w' (fun w => P w ∧ Q w) := fun w2 hw => ⟨h w2 hw, k w2 hw⟩
set_option maxRecDepth 100000 in
set_option maxHeartbeats 16000000 in
theorem mdN0 (g p : Nat) (t : ByteArray) (R : Option MfRes) (w : World) (hs : t.size ≤ maxLen) (hl0 : p ≤ t.size) (HR0 : Hid (R = none)) (hn0 : textO t p = none) (h : RowV w g (cuv t p)) :
    Calls Tryd.prog 53 #[.pointer (some ⟨g, 0, none⟩)] w fun r w' => ManT t g R w r w' := by
  have hg : g < w.heap.size := h.lt (cuv_ne _ _)
  have HF := HR0
  have hC1 : ∀ w0, (RowV w0 g [.string t, .int .i64 (p : Int)]) → Calls Tryd.prog 79 #[.pointer (some ⟨g, 0, none⟩)] w0 fun r w' => r = .panicked [{ v := faultV, recovered := false }] ∧ Only g w0 w' := fun w0 n0 => textNo g p t w0 hs hn0 hl0 n0
  have HS0 : Hid (Sta [g] w [(g, [.string t, .int .i64 (p : Int)])] [⟨fun k => k < w.heap.size ∧ k ≠ g, fun _ => True⟩] w) := Sta.recv h (cuv_ne _ _) (fun _ => True) (fun _ _ => trivial)
  clear h hs
  go_enter Tryd.func53, Tryd.ntmps53
  go_wp2_with (first
    | ((with_reducible refine wpList_allocV (w := w) (by with_unfolding_all rfl) 41 (by with_unfolding_all rfl) [.string ⟨#[]⟩, .slice none 0 0, .slice none 0 0] Tryd.zT_implManifest ?_); intro w1 hA1 hB1 hS1; clear hS1; have HS1 := Sta.new HS0 hA1 hB1 (by simp); clear hA1 hB1))
  have n2_0 : RowV w1 g [.string t, .int .i64 (p : Int)] := (Sta.r (i := 1) HS1 rfl :)
  refine (hC1 w1 n2_0).mono ?_
  rintro r w2 ⟨rfl, hO2⟩
  exact ⟨rfl, ManT.no HF.out ((Sta.only HS1 hg).trans hO2)⟩
set_option maxRecDepth 100000 in
set_option maxHeartbeats 16000000 in
theorem mdN1 (g p : Nat) (t : ByteArray) (R : Option MfRes) (nm : ByteArray) (p1 : Nat) (w : World) (hs : t.size ≤ maxLen) (hl0 : p ≤ t.size) (HR0 : Hid (R = none)) (hn0 : textO t p = some (nm, p1)) (hl1 : p1 ≤ t.size) (hn1 : countO t p1 10 = none) (h : RowV w g (cuv t p)) :
    Calls Tryd.prog 53 #[.pointer (some ⟨g, 0, none⟩)] w fun r w' => ManT t g R w r w' := by
  have hg : g < w.heap.size := h.lt (cuv_ne _ _)
  have HF := HR0
  have hC1 : ∀ w0, (RowV w0 g [.string t, .int .i64 (p : Int)]) → Calls Tryd.prog 79 #[.pointer (some ⟨g, 0, none⟩)] w0 fun r w' => r = .returned (.string nm) ∧ RowV w' g [.string t, .int .i64 (p1 : Int)] ∧ Only g w0 w' := fun w0 n0 => textYes g p p1 t nm w0 hs ⟨hn0, hl0⟩ n0
  have hC2 : ∀ w0, (RowV w0 g [.string t, .int .i64 (p1 : Int)]) → Calls Tryd.prog 80 #[.pointer (some ⟨g, 0, none⟩), .int .i64 10] w0 fun r w' => r = .panicked [{ v := faultV, recovered := false }] ∧ Only g w0 w' := fun w0 n0 => countNo g p1 10 t w0 hs hn1 hl1 n0
  have HS0 : Hid (Sta [g] w [(g, [.string t, .int .i64 (p : Int)])] [⟨fun k => k < w.heap.size ∧ k ≠ g, fun _ => True⟩] w) := Sta.recv h (cuv_ne _ _) (fun _ => True) (fun _ _ => trivial)
  clear h hs
  go_enter Tryd.func53, Tryd.ntmps53
  go_wp2_with (first
    | ((with_reducible refine wpList_allocV (w := w) (by with_unfolding_all rfl) 41 (by with_unfolding_all rfl) [.string ⟨#[]⟩, .slice none 0 0, .slice none 0 0] Tryd.zT_implManifest ?_); intro w1 hA1 hB1 hS1; clear hS1; have HS1 := Sta.new HS0 hA1 hB1 (by simp); clear hA1 hB1)
    | (go_at_call 79; have n2_0 : RowV w1 g [.string t, .int .i64 (p : Int)] := (Sta.r (i := 1) HS1 rfl :); (with_reducible refine (hC1 w1 n2_0).mono ?_); rintro r w2 ⟨rfl, hA2, hO2⟩; have HS2 := Sta.put 1 HS1 rfl hA2 (by simp) hO2; clear hA2 hO2)
    | ((with_reducible refine wpList_allocV (w := w2) (by with_unfolding_all rfl) 41 (by with_unfolding_all rfl) [.string ⟨#[]⟩, .slice none 0 0, .slice none 0 0] Tryd.zT_implManifest ?_); intro w3 hA3 hB3 hS3; clear hS3; have HS3 := Sta.new HS2 hA3 hB3 (by simp); clear hA3 hB3)
    | ((with_reducible refine wpList_storeS (w := w3) (by with_unfolding_all rfl) 41 (.tmp 3) (.tmp 8) (by with_unfolding_all rfl) w2.heap.size [.string ⟨#[]⟩, .slice none 0 0, .slice none 0 0] [.string nm, .slice none 0 0, .slice none 0 0] (by with_unfolding_all rfl) (by with_unfolding_all rfl) (Sta.r (i := 0) HS3 (by with_unfolding_all rfl)) 3 Tryd.sT_implManifest (by with_unfolding_all rfl) (by with_unfolding_all rfl) (by with_unfolding_all rfl) ?_); intro w4 hA4 hO4; have HS4 := Sta.put 0 HS3 rfl hA4 (by simp) hO4; clear hA4 hO4))
  have n5_0 : RowV w4 g [.string t, .int .i64 (p1 : Int)] := (Sta.r (i := 2) HS4 rfl :)
  refine (hC2 w4 n5_0).mono ?_
  rintro r w5 ⟨rfl, hO5⟩
  exact ⟨rfl, ManT.no HF.out ((Sta.only HS4 hg).trans hO5)⟩
set_option maxRecDepth 100000 in
set_option maxHeartbeats 16000000 in
theorem mdY (g p : Nat) (t : ByteArray) (R : Option MfRes) (nm : ByteArray) (p1 : Nat) (m p2 : Nat) (w : World) (hs : t.size ≤ maxLen) (hl0 : p ≤ t.size) (HR0 : Hid (R = restLs t nm [] m p2)) (hn0 : textO t p = some (nm, p1)) (hl1 : p1 ≤ t.size) (hn1 : countO t p1 10 = some (m, p2)) (hl2 : p2 ≤ t.size) (hm10 : m ≤ 10) (h : RowV w g (cuv t p)) :
    Calls Tryd.prog 53 #[.pointer (some ⟨g, 0, none⟩)] w fun r w' => ManT t g R w r w' := by
  have hg : g < w.heap.size := h.lt (cuv_ne _ _)
  have hnmz : nm.size ≤ maxLen := Nat.le_trans (textO_some hn0).2.2.1 hs
  have hs' := hs
  have hC1 : ∀ w0, (RowV w0 g [.string t, .int .i64 (p : Int)]) → Calls Tryd.prog 79 #[.pointer (some ⟨g, 0, none⟩)] w0 fun r w' => r = .returned (.string nm) ∧ RowV w' g [.string t, .int .i64 (p1 : Int)] ∧ Only g w0 w' := fun w0 n0 => textYes g p p1 t nm w0 hs ⟨hn0, hl0⟩ n0
  have hC2 : ∀ w0, (RowV w0 g [.string t, .int .i64 (p1 : Int)]) → Calls Tryd.prog 80 #[.pointer (some ⟨g, 0, none⟩), .int .i64 10] w0 fun r w' => r = .returned (.int .i64 (m : Int)) ∧ RowV w' g [.string t, .int .i64 (p2 : Int)] ∧ Only g w0 w' := fun w0 n0 => countYes g p1 p2 10 m t w0 hs ⟨hn1, hl1⟩ n0
  have hC3 : ∀ w0 (pa : Nat), (RowV w0 g [.string t, .int .i64 (pa : Int)]) → (countO t pa 10 = none) → (pa ≤ t.size) → Calls Tryd.prog 80 #[.pointer (some ⟨g, 0, none⟩), .int .i64 10] w0 fun r w' => r = .panicked [{ v := faultV, recovered := false }] ∧ Only g w0 w' := fun w0 pa n0 n1 n2 => countNo g pa 10 t w0 hs n1 n2 n0
  have hC4 : ∀ w0 (pa : Nat) (m2 : Nat) (p3 : Nat), (RowV w0 g [.string t, .int .i64 (pa : Int)]) → (countO t pa 10 = some (m2, p3)) → (pa ≤ t.size) → Calls Tryd.prog 80 #[.pointer (some ⟨g, 0, none⟩), .int .i64 10] w0 fun r w' => r = .returned (.int .i64 (m2 : Int)) ∧ RowV w' g [.string t, .int .i64 (p3 : Int)] ∧ Only g w0 w' := fun w0 pa m2 p3 n0 n1 n2 => countYes g pa p3 10 m2 t w0 hs ⟨n1, n2⟩ n0
  have hC5 : ∀ w0 (aa : Option Addr) (na : Nat) (ca : Nat) (la : List LayV) (ab : Option Addr) (nb : Nat) (cb : Nat) (lb : List LabV), (LayO w0 w.heap.size (.slice aa na ca) la) → (LabO w0 w.heap.size (.slice ab nb cb) lb) → (∀ x ∈ la, x.w) → (∀ x ∈ lb, x.w) → (la.length ≤ 10 ∧ lb.length ≤ 10) → (boolP (ManOk nm la lb) = false) → Calls Tryd.prog 83 #[.agg #[.string nm, .slice aa na ca, .slice ab nb cb]] w0 fun r w' => r = .returned (.bool false) ∧ Below w0.heap.size w0 w' := fun w0 aa na ca la ab nb cb lb n0 n1 n2 n3 n4 n5 => by rw [← n5]; exact implManR nm aa ca na la ab cb nb lb w0 (LayO.row n0).2.2.symm (LayO.row n0).1.lay (by have := (LayO.row n0).2.2; unfold maxLen; omega) n2 (LabO.row n1).2.2.symm (LabO.row n1).1.lab (by have := (LabO.row n1).2.2; unfold maxLen; omega) n3 hnmz
  have hC6 : ∀ w0, Calls Tryd.prog 78 #[.pointer (some ⟨g, 0, none⟩), .bool false] w0 fun r w' => r = .panicked [{ v := faultV, recovered := false }] ∧ Only g w0 w' := fun w0 => (mustNo _ w0).mono fun r w' ⟨h1, h2⟩ => ⟨h1, h2 ▸ Only.refl g w0⟩
  have hC7 : ∀ w0 (aa : Option Addr) (na : Nat) (ca : Nat) (la : List LayV) (ab : Option Addr) (nb : Nat) (cb : Nat) (lb : List LabV), (LayO w0 w.heap.size (.slice aa na ca) la) → (LabO w0 w.heap.size (.slice ab nb cb) lb) → (∀ x ∈ la, x.w) → (∀ x ∈ lb, x.w) → (la.length ≤ 10 ∧ lb.length ≤ 10) → (boolP (ManOk nm la lb) = true) → Calls Tryd.prog 83 #[.agg #[.string nm, .slice aa na ca, .slice ab nb cb]] w0 fun r w' => r = .returned (.bool true) ∧ Below w0.heap.size w0 w' := fun w0 aa na ca la ab nb cb lb n0 n1 n2 n3 n4 n5 => by rw [← n5]; exact implManR nm aa ca na la ab cb nb lb w0 (LayO.row n0).2.2.symm (LayO.row n0).1.lay (by have := (LayO.row n0).2.2; unfold maxLen; omega) n2 (LabO.row n1).2.2.symm (LabO.row n1).1.lab (by have := (LabO.row n1).2.2; unfold maxLen; omega) n3 hnmz
  have hC8 : ∀ w0, Calls Tryd.prog 78 #[.pointer (some ⟨g, 0, none⟩), .bool true] w0 fun r w' => r = .returned (.tuple #[]) ∧ w0 = w' := fun w0 => mustYes _ w0
  have hC9 : ∀ w0 (pb : Nat), (RowV w0 g [.string t, .int .i64 (pb : Int)]) → (textO t pb = none) → (pb ≤ t.size) → Calls Tryd.prog 79 #[.pointer (some ⟨g, 0, none⟩)] w0 fun r w' => r = .panicked [{ v := faultV, recovered := false }] ∧ Only g w0 w' := fun w0 pb n0 n1 n2 => textNo g pb t w0 hs n1 n2 n0
  have hC10 : ∀ w0 (pb : Nat) (x0 : ByteArray) (q1 : Nat), (RowV w0 g [.string t, .int .i64 (pb : Int)]) → (textO t pb = some (x0, q1)) → (pb ≤ t.size) → Calls Tryd.prog 79 #[.pointer (some ⟨g, 0, none⟩)] w0 fun r w' => r = .returned (.string x0) ∧ RowV w' g [.string t, .int .i64 (q1 : Int)] ∧ Only g w0 w' := fun w0 pb x0 q1 n0 n1 n2 => textYes g pb q1 t x0 w0 hs ⟨n1, n2⟩ n0
  have hC11 : ∀ w0 (q1 : Nat), (RowV w0 g [.string t, .int .i64 (q1 : Int)]) → (textO t q1 = none) → (q1 ≤ t.size) → Calls Tryd.prog 79 #[.pointer (some ⟨g, 0, none⟩)] w0 fun r w' => r = .panicked [{ v := faultV, recovered := false }] ∧ Only g w0 w' := fun w0 q1 n0 n1 n2 => textNo g q1 t w0 hs n1 n2 n0
  have hC12 : ∀ w0 (q1 : Nat) (x1 : ByteArray) (q2 : Nat), (RowV w0 g [.string t, .int .i64 (q1 : Int)]) → (textO t q1 = some (x1, q2)) → (q1 ≤ t.size) → Calls Tryd.prog 79 #[.pointer (some ⟨g, 0, none⟩)] w0 fun r w' => r = .returned (.string x1) ∧ RowV w' g [.string t, .int .i64 (q2 : Int)] ∧ Only g w0 w' := fun w0 q1 x1 q2 n0 n1 n2 => textYes g q1 q2 t x1 w0 hs ⟨n1, n2⟩ n0
  have hC13 : ∀ w0 (pa : Nat), (RowV w0 g [.string t, .int .i64 (pa : Int)]) → (bytesO t pa 32 = none) → (pa ≤ t.size) → Calls Tryd.prog 81 #[.pointer (some ⟨g, 0, none⟩), .int .i64 32] w0 fun r w' => r = .panicked [{ v := faultV, recovered := false }] ∧ Only g w0 w' := fun w0 pa n0 n1 n2 => bytesNo g pa 32 t w0 hs (by omega) n2 (bytesO_no n1) n0
  have hC14 : ∀ w0 (pa : Nat) (x0 : ByteArray) (q1 : Nat), (RowV w0 g [.string t, .int .i64 (pa : Int)]) → (bytesO t pa 32 = some (x0, q1)) → Calls Tryd.prog 81 #[.pointer (some ⟨g, 0, none⟩), .int .i64 32] w0 fun r w' => r = .returned (.string x0) ∧ RowV w' g [.string t, .int .i64 (q1 : Int)] ∧ Only g w0 w' := fun w0 pa x0 q1 n0 n1 => by have h5 := bytesO_yes n1; rw [h5.1]; exact bytesYes g pa 32 q1 t w0 hs h5.2.1 h5.2.2 n0
  have hC15 : ∀ w0 (q1 : Nat), (RowV w0 g [.string t, .int .i64 (q1 : Int)]) → (numO t q1 = none) → (q1 ≤ t.size) → Calls Tryd.prog 82 #[.pointer (some ⟨g, 0, none⟩)] w0 fun r w' => r = .panicked [{ v := faultV, recovered := false }] ∧ Only g w0 w' := fun w0 q1 n0 n1 n2 => numNo g q1 t w0 hs n1 n2 n0
  have hC16 : ∀ w0 (q1 : Nat) (x1 : Int) (q2 : Nat), (RowV w0 g [.string t, .int .i64 (q1 : Int)]) → (numO t q1 = some (x1, q2)) → (q1 ≤ t.size) → Calls Tryd.prog 82 #[.pointer (some ⟨g, 0, none⟩)] w0 fun r w' => r = .returned (.int .i64 x1) ∧ RowV w' g [.string t, .int .i64 (q2 : Int)] ∧ Only g w0 w' := fun w0 q1 x1 q2 n0 n1 n2 => numYes g q1 q2 t x1 w0 hs ⟨n1, n2⟩ n0
  have HS0 : Hid (Sta [g] w [(g, [.string t, .int .i64 (p : Int)])] [⟨fun k => k < w.heap.size ∧ k ≠ g, fun _ => True⟩] w) := Sta.recv h (cuv_ne _ _) (fun _ => True) (fun _ _ => trivial)
  clear h hs
  go_enter Tryd.func53, Tryd.ntmps53
  go_wp2_with (first
    | ((with_reducible refine wpList_allocV (w := w) (by with_unfolding_all rfl) 41 (by with_unfolding_all rfl) [.string ⟨#[]⟩, .slice none 0 0, .slice none 0 0] Tryd.zT_implManifest ?_); intro w1 hA1 hB1 hS1; clear hS1; have HS1 := Sta.new HS0 hA1 hB1 (by simp); clear hA1 hB1)
    | (go_at_call 79; have n2_0 : RowV w1 g [.string t, .int .i64 (p : Int)] := (Sta.r (i := 1) HS1 rfl :); (with_reducible refine (hC1 w1 n2_0).mono ?_); rintro r w2 ⟨rfl, hA2, hO2⟩; have HS2 := Sta.put 1 HS1 rfl hA2 (by simp) hO2; clear hA2 hO2)
    | ((with_reducible refine wpList_allocV (w := w2) (by with_unfolding_all rfl) 41 (by with_unfolding_all rfl) [.string ⟨#[]⟩, .slice none 0 0, .slice none 0 0] Tryd.zT_implManifest ?_); intro w3 hA3 hB3 hS3; clear hS3; have HS3 := Sta.new HS2 hA3 hB3 (by simp); clear hA3 hB3)
    | ((with_reducible refine wpList_storeS (w := w3) (by with_unfolding_all rfl) 41 (.tmp 3) (.tmp 8) (by with_unfolding_all rfl) w2.heap.size [.string ⟨#[]⟩, .slice none 0 0, .slice none 0 0] [.string nm, .slice none 0 0, .slice none 0 0] (by with_unfolding_all rfl) (by with_unfolding_all rfl) (Sta.r (i := 0) HS3 (by with_unfolding_all rfl)) 3 Tryd.sT_implManifest (by with_unfolding_all rfl) (by with_unfolding_all rfl) (by with_unfolding_all rfl) ?_); intro w4 hA4 hO4; have HS4 := Sta.put 0 HS3 rfl hA4 (by simp) hO4; clear hA4 hO4)
    | (go_at_call 80; have n5_0 : RowV w4 g [.string t, .int .i64 (p1 : Int)] := (Sta.r (i := 2) HS4 rfl :); (with_reducible refine (hC2 w4 n5_0).mono ?_); rintro r w5 ⟨rfl, hA5, hO5⟩; have HS5 := Sta.put 2 HS4 rfl hA5 (by simp) hO5; clear hA5 hO5))
  have HS6 : Hid (Sta [g] w [(w2.heap.size, [.string nm, .slice none 0 0, .slice none 0 0]), (w.heap.size, [.string ⟨#[]⟩, .slice none 0 0, .slice none 0 0]), (g, [.string t, .int .i64 (p2 : Int)])] [⟨fun k => (Value.slice none 0 0).ownBlock = some k, fun w' => LayO w' w.heap.size (.slice none 0 0) ([])⟩, ⟨fun k => k < w.heap.size ∧ k ≠ g, fun _ => True⟩] w5) := Sta.own0 w.heap.size 85 2 HS5
  go_wp2_with fail
  go_loopw [13] (fun v0 wr => ∃ (k : Nat) (pa : Nat) (aa : Option Addr) (na : Nat) (ca : Nat) (la : List LayV), v0 = .int .i64 (k : Int) ∧ k ≤ m ∧ Hid (pa ≤ t.size) ∧ Hid (la.length = k) ∧ Hid (∀ x ∈ la, x.w) ∧ Hid (R = restLs t nm la (m - k) pa) ∧ Hid (Sta [g] w [(w2.heap.size, [.string nm, .slice aa na ca, .slice none 0 0]), (w.heap.size, [.string ⟨#[]⟩, .slice none 0 0, .slice none 0 0]), (g, [.string t, .int .i64 (pa : Int)])] [⟨fun k => (Value.slice aa na ca).ownBlock = some k, fun w' => LayO w' w.heap.size (.slice aa na ca) la⟩, ⟨fun k => k < w.heap.size ∧ k ≠ g, fun _ => True⟩] wr)) (fun v0 _ => m - (intOf v0).toNat)
  case atStart => exact ⟨0, p2, none, 0, 0, [], rfl, Nat.zero_le _, hl2, rfl, fun x hx => (by cases hx), HR0.out, HS6⟩
  case round =>
    rename Go.World => wl7
    clear HS6
    obtain ⟨k, pa, aa, na, ca, la, rfl, hk7, HPa, HLa, HWa, HR, HS7⟩ := hrel
    by_cases hlt7 : k < m
    case neg =>
      obtain rfl : m = k := by omega
      have hla := HPa.out
      have HRe : Hid (R = restC t nm la pa) := by have := HR.out; rw [Nat.sub_self, restLs_end] at this; exact this
      clear HR
      have hb2 : countO t pa 10 = none ∨ (∃ m2 p3, countO t pa 10 = some (m2, p3)) := by
        cases h5 : countO t pa 10 with
        | none => exact Or.inl rfl
        | some y => exact Or.inr ⟨y.1, y.2, rfl⟩
      rcases hb2 with hc | ⟨m2, p3, hc⟩
      · as_aux_lemma =>
        have HF : Hid (R = none) := by show _ = _; rw [HRe.out]; exact restC_no hc
        go_wp2_with fail
        have n8_0 : RowV wl7 g [.string t, .int .i64 (pa : Int)] := (Sta.r (i := 2) HS7 rfl :)
        refine (hC3 wl7 pa n8_0 hc hla).mono ?_
        rintro r w8 ⟨rfl, hO8⟩
        exact ⟨rfl, ManT.no HF.out ((Sta.only HS7 hg).trans hO8)⟩
      · as_aux_lemma =>
        have hl3 := (countO_le hc).2
        have hm2 := (countO_le hc).1
        have HRe2 : Hid (R = restBs t nm la [] m2 p3) := by show _ = _; rw [HRe.out]; exact restC_yes hc
        go_wp2_with (first
          | (go_at_call 80; have n9_0 : RowV wl7 g [.string t, .int .i64 (pa : Int)] := (Sta.r (i := 2) HS7 rfl :); (with_reducible refine (hC4 wl7 pa m2 p3 n9_0 hc hla).mono ?_); rintro r w9 ⟨rfl, hA9, hO9⟩; have HS9 := Sta.put 2 HS7 rfl hA9 (by simp) hO9; clear hA9 hO9))
        have HS10 : Hid (Sta [g] w [(w2.heap.size, [.string nm, .slice aa na ca, .slice none 0 0]), (w.heap.size, [.string ⟨#[]⟩, .slice none 0 0, .slice none 0 0]), (g, [.string t, .int .i64 (p3 : Int)])] [⟨fun k => (Value.slice none 0 0).ownBlock = some k, fun w' => LabO w' w.heap.size (.slice none 0 0) ([])⟩, ⟨fun m => (Value.slice aa na ca).ownBlock = some m, fun w' => LayO w' w.heap.size (.slice aa na ca) la⟩, ⟨fun m => m < w.heap.size ∧ m ≠ g, fun _ => True⟩] w9) := Sta.own0 w.heap.size 116 2 HS9
        go_wp2_with fail
        go_loopw [34] (fun v0 wr => ∃ (k : Nat) (pb : Nat) (ab : Option Addr) (nb : Nat) (cb : Nat) (lb : List LabV), v0 = .int .i64 (k : Int) ∧ k ≤ m2 ∧ Hid (pb ≤ t.size) ∧ Hid (lb.length = k) ∧ Hid (∀ x ∈ lb, x.w) ∧ Hid (R = restBs t nm la lb (m2 - k) pb) ∧ Hid (Sta [g] w [(w2.heap.size, [.string nm, .slice aa na ca, .slice ab nb cb]), (w.heap.size, [.string ⟨#[]⟩, .slice none 0 0, .slice none 0 0]), (g, [.string t, .int .i64 (pb : Int)])] [⟨fun k => (Value.slice ab nb cb).ownBlock = some k, fun w' => LabO w' w.heap.size (.slice ab nb cb) lb⟩, ⟨fun m => (Value.slice aa na ca).ownBlock = some m, fun w' => LayO w' w.heap.size (.slice aa na ca) la⟩, ⟨fun m => m < w.heap.size ∧ m ≠ g, fun _ => True⟩] wr)) (fun v0 _ => m2 - (intOf v0).toNat)
        case atStart => exact ⟨0, p3, none, 0, 0, [], rfl, Nat.zero_le _, hl3, rfl, fun x hx => (by cases hx), HRe2.out, HS10⟩
        case round =>
          rename Go.World => wl11
          clear HS10
          obtain ⟨k, pb, ab, nb, cb, lb, rfl, hk11, HPb, HLb, HWb, HR, HS11⟩ := hrel
          by_cases hlt11 : k < m2
          case neg =>
            obtain rfl : m2 = k := by omega
            have hlb := HPb.out
            have HRe3 : Hid (R = restBs t nm la lb 0 pb) := by have := HR.out; rw [Nat.sub_self] at this; exact this
            have HLen : Hid (la.length ≤ 10 ∧ lb.length ≤ 10) := by have h1 := HLa.out; have h2 := HLb.out; show _ ∧ _; omega
            clear HR
            cases hd : boolP (ManOk nm la lb)
            · as_aux_lemma =>
              have HF : Hid (R = none) := by show _ = _; rw [HRe3.out]; exact restBs_no hd
              go_wp2_with fail
              have HS12 := Sta.drew HS11
              refine wp_region_held_drew (S := fun w' => w'.cell? ⟨w2.heap.size, 0, none⟩ = some (.string nm) ∧ w'.cell? ⟨w2.heap.size, 1, none⟩ = some (.slice aa na ca) ∧ w'.cell? ⟨w2.heap.size, 2, none⟩ = some (.slice ab nb cb)) (by kernel_rfl) ⟨Sta.c (i := 0) HS12 rfl rfl, Sta.c (i := 0) HS12 rfl rfl, Sta.c (i := 0) HS12 rfl rfl⟩ (fun hHeld => ?_)
              generalize wl11.drew = w12 at *
              refine wpAnyH_take (i := 0) (oi := ⟨_, _, _, _, _, _⟩) (v := .pointer (some ⟨g, 0, none⟩)) rfl (by kernel_rfl) (by kernel_rfl) (by kernel_rfl) (fun _ _ _ h => h) (Or.inl ⟨wanted_free rfl, fun w' hSw => ?_⟩) hHeld ?_
              · go_simp
              try simp only [Act.put, List.setIfInBounds_toArray, List.set_cons_zero, List.set_cons_succ]
              refine wpAnyH_take (i := 1) (oi := ⟨_, _, _, _, _, _⟩) (v := .pointer (some ⟨g, 0, none⟩)) rfl (by kernel_rfl) (by kernel_rfl) (by kernel_rfl) (fun _ _ _ h => h) (Or.inl ⟨wanted_free rfl, fun w' hSw => ?_⟩) hHeld ?_
              · go_simp
              try simp only [Act.put, List.setIfInBounds_toArray, List.set_cons_zero, List.set_cons_succ]
              refine wpAnyH_take (i := 2) (oi := ⟨_, _, _, _, _, _⟩) (v := .pointer (some ⟨g, 0, none⟩)) rfl (by kernel_rfl) (by kernel_rfl) (by kernel_rfl) (fun _ _ _ h => h) (Or.inl ⟨wanted_free rfl, fun w' hSw => ?_⟩) hHeld ?_
              · go_simp
              try simp only [Act.put, List.setIfInBounds_toArray, List.set_cons_zero, List.set_cons_succ]
              refine wpAnyH_take (i := 3) (oi := ⟨_, _, _, _, _, _⟩) (v := .agg #[.string nm, .slice aa na ca, .slice ab nb cb]) rfl (by kernel_rfl) (by kernel_rfl) (by kernel_rfl) (fun _ _ _ h => h) (Or.inl ⟨wanted_free rfl, fun w' hSw => ?_⟩) hHeld ?_
              · obtain ⟨s0, s1, s2⟩ := hSw
                go_simp
              try simp only [Act.put, List.setIfInBounds_toArray, List.set_cons_zero, List.set_cons_succ]
              refine wpAnyH_ready (rs := [4]) (by kernel_rfl) (by simp) (AllReadyH.cons (o := ⟨_, _, _, _, _, _⟩) rfl (fun K hK => ?_) AllReadyH.nil)
              rewrite [if_pos (wanted_free rfl)]
              go_simp
              have n13_0 : LayO w12 w.heap.size (.slice aa na ca) la := (Sta.t (i := 1) HS12 rfl :)
              have n13_1 : LabO w12 w.heap.size (.slice ab nb cb) lb := (Sta.t (i := 0) HS12 rfl :)
              (with_reducible refine (hC5 w12 aa na ca la ab nb cb lb n13_0 n13_1 HWa.out HWb.out HLen.out hd).mono ?_)
              rintro r w13 ⟨rfl, hB13⟩
              have HS13 := Sta.call HS12 hB13
              clear hB13
              go_wp2_with fail
              refine hK.out _ _ ⟨Sta.c (i := 0) HS13 rfl rfl, Sta.c (i := 0) HS13 rfl rfl, Sta.c (i := 0) HS13 rfl rfl⟩ (fun hHeld => ?_)
              clear hK K
              try simp only [Act.put, List.setIfInBounds_toArray, List.set_cons_zero, List.set_cons_succ]
              refine wpAnyH_ready (rs := [5]) (by kernel_rfl) (by simp) (AllReadyH.cons (o := ⟨_, _, _, _, _, _⟩) rfl (fun K hK => ?_) AllReadyH.nil)
              rewrite [if_pos (wanted_free rfl)]
              go_simp
              go_wp2_with fail
              refine (hC6 w13).mono ?_
              rintro r w14 ⟨rfl, hO14⟩
              exact ⟨rfl, ManT.no HF.out ((Sta.only HS13 hg).trans hO14)⟩
            · as_aux_lemma =>
              have HF : Hid (R = some (nm, la, lb, pb)) := by show _ = _; rw [HRe3.out]; exact restBs_yes hd
              go_wp2_with fail
              have HS15 := Sta.drew HS11
              refine wp_region_held_drew (S := fun w' => w'.cell? ⟨w2.heap.size, 0, none⟩ = some (.string nm) ∧ w'.cell? ⟨w2.heap.size, 1, none⟩ = some (.slice aa na ca) ∧ w'.cell? ⟨w2.heap.size, 2, none⟩ = some (.slice ab nb cb)) (by kernel_rfl) ⟨Sta.c (i := 0) HS15 rfl rfl, Sta.c (i := 0) HS15 rfl rfl, Sta.c (i := 0) HS15 rfl rfl⟩ (fun hHeld => ?_)
              generalize wl11.drew = w15 at *
              refine wpAnyH_take (i := 0) (oi := ⟨_, _, _, _, _, _⟩) (v := .pointer (some ⟨g, 0, none⟩)) rfl (by kernel_rfl) (by kernel_rfl) (by kernel_rfl) (fun _ _ _ h => h) (Or.inl ⟨wanted_free rfl, fun w' hSw => ?_⟩) hHeld ?_
              · go_simp
              try simp only [Act.put, List.setIfInBounds_toArray, List.set_cons_zero, List.set_cons_succ]
              refine wpAnyH_take (i := 1) (oi := ⟨_, _, _, _, _, _⟩) (v := .pointer (some ⟨g, 0, none⟩)) rfl (by kernel_rfl) (by kernel_rfl) (by kernel_rfl) (fun _ _ _ h => h) (Or.inl ⟨wanted_free rfl, fun w' hSw => ?_⟩) hHeld ?_
              · go_simp
              try simp only [Act.put, List.setIfInBounds_toArray, List.set_cons_zero, List.set_cons_succ]
              refine wpAnyH_take (i := 2) (oi := ⟨_, _, _, _, _, _⟩) (v := .pointer (some ⟨g, 0, none⟩)) rfl (by kernel_rfl) (by kernel_rfl) (by kernel_rfl) (fun _ _ _ h => h) (Or.inl ⟨wanted_free rfl, fun w' hSw => ?_⟩) hHeld ?_
              · go_simp
              try simp only [Act.put, List.setIfInBounds_toArray, List.set_cons_zero, List.set_cons_succ]
              refine wpAnyH_take (i := 3) (oi := ⟨_, _, _, _, _, _⟩) (v := .agg #[.string nm, .slice aa na ca, .slice ab nb cb]) rfl (by kernel_rfl) (by kernel_rfl) (by kernel_rfl) (fun _ _ _ h => h) (Or.inl ⟨wanted_free rfl, fun w' hSw => ?_⟩) hHeld ?_
              · obtain ⟨s0, s1, s2⟩ := hSw
                go_simp
              try simp only [Act.put, List.setIfInBounds_toArray, List.set_cons_zero, List.set_cons_succ]
              refine wpAnyH_ready (rs := [4]) (by kernel_rfl) (by simp) (AllReadyH.cons (o := ⟨_, _, _, _, _, _⟩) rfl (fun K hK => ?_) AllReadyH.nil)
              rewrite [if_pos (wanted_free rfl)]
              go_simp
              have n16_0 : LayO w15 w.heap.size (.slice aa na ca) la := (Sta.t (i := 1) HS15 rfl :)
              have n16_1 : LabO w15 w.heap.size (.slice ab nb cb) lb := (Sta.t (i := 0) HS15 rfl :)
              (with_reducible refine (hC7 w15 aa na ca la ab nb cb lb n16_0 n16_1 HWa.out HWb.out HLen.out hd).mono ?_)
              rintro r w16 ⟨rfl, hB16⟩
              have HS16 := Sta.call HS15 hB16
              clear hB16
              go_wp2_with fail
              refine hK.out _ _ ⟨Sta.c (i := 0) HS16 rfl rfl, Sta.c (i := 0) HS16 rfl rfl, Sta.c (i := 0) HS16 rfl rfl⟩ (fun hHeld => ?_)
              clear hK K
              try simp only [Act.put, List.setIfInBounds_toArray, List.set_cons_zero, List.set_cons_succ]
              refine wpAnyH_ready (rs := [5]) (by kernel_rfl) (by simp) (AllReadyH.cons (o := ⟨_, _, _, _, _, _⟩) rfl (fun K hK => ?_) AllReadyH.nil)
              rewrite [if_pos (wanted_free rfl)]
              go_simp
              (with_reducible refine (hC8 w16).mono ?_)
              rintro r w' ⟨rfl, rfl⟩
              go_wp2_with fail
              refine hK.out _ _ ⟨Sta.c (i := 0) HS16 rfl rfl, Sta.c (i := 0) HS16 rfl rfl, Sta.c (i := 0) HS16 rfl rfl⟩ (fun hHeld => ?_)
              clear hK K
              try simp only [Act.put, List.setIfInBounds_toArray, List.set_cons_zero, List.set_cons_succ]
              refine wpAnyH_done (by kernel_rfl) ?_ _
              clear hHeld
              go_wp2_with (first
                | ((with_reducible refine wpList_loadV (w := w16) (by with_unfolding_all rfl) 41 (.tmp 3) (by with_unfolding_all rfl) w2.heap.size [.string nm, .slice aa na ca, .slice ab nb cb] (by with_unfolding_all rfl) (Sta.r (i := 0) HS16 (by with_unfolding_all rfl)) Tryd.uT_implManifest 3 Tryd.sT_implManifest (by with_unfolding_all rfl) ?_))
                | ((with_reducible refine wpList_storeS (w := w16) (by with_unfolding_all rfl) 41 (.tmp 2) (.tmp 57) (by with_unfolding_all rfl) w.heap.size [.string ⟨#[]⟩, .slice none 0 0, .slice none 0 0] [.string nm, .slice aa na ca, .slice ab nb cb] (by with_unfolding_all rfl) (by with_unfolding_all rfl) (Sta.r (i := 1) HS16 (by with_unfolding_all rfl)) 3 Tryd.sT_implManifest (by with_unfolding_all rfl) (by with_unfolding_all rfl) (by with_unfolding_all rfl) ?_); intro w18 hA18 hO18; have HS18 := Sta.put 1 HS16 rfl hA18 (by simp) hO18; clear hA18 hO18))
              exact bodyPost_ret (results_V (t := 41) rfl _ w.heap.size [.string nm, .slice aa na ca, .slice ab nb cb] rfl (Sta.r (i := 1) HS18 (by with_unfolding_all rfl)) Tryd.uT_implManifest 3 Tryd.sT_implManifest rfl) rfl (ManT.yes (L := [.string nm, .slice aa na ca, .slice ab nb cb]) HF.out rfl rfl ⟨nm, aa, na, ca, ab, nb, cb, rfl, (LayO.row (Sta.t (i := 1) HS18 rfl : LayO _ _ (.slice aa na ca) la)).2.1, (LabO.row (Sta.t (i := 0) HS18 rfl : LabO _ _ (.slice ab nb cb) lb)).2.1, (fun x y e1 e2 => (apart_own (i := 0) (j := 1) HS18 rfl rfl (by decide) y x e2 e1).symm)⟩ HWa.out HWb.out (Sta.r (i := 2) HS18 rfl) (Sta.only HS18 hg) ((Made.and' (P := fun w2 => LayO w2 w.heap.size (.slice aa na ca) la) (Q := fun w2 => LabO w2 w.heap.size (.slice ab nb cb) lb) (Sta.made_of (i := 1) HS18 rfl (fun k hk => (own_ge (Sta.t (i := 1) HS18 rfl : LayO _ _ (.slice aa na ca) la) hk).1)) (Sta.made_of (i := 0) HS18 rfl (fun k hk => (own_ge (Sta.t (i := 0) HS18 rfl : LabO _ _ (.slice ab nb cb) lb) hk).1))).imp (fun w2 h2 => ⟨aa, ca, ab, cb, by rw [← (LayO.row h2.1).2.2, ← (LabO.row h2.2).2.2], (LayO.row h2.1).1, (LabO.row h2.2).1⟩)))
          have lk11 : (k : Int) < m2 := by omega
          have l011 : (0 : Int) ≤ k := by omega
          have hlb := HPb.out
          obtain ⟨j, hj⟩ : ∃ j, m2 - k = j + 1 := ⟨m2 - k - 1, by omega⟩
          have hj2 : m2 - (k + 1) = j := by omega
          have HRr : Hid (R = restBs t nm la lb (j + 1) pb) := by have := HR.out; rw [hj] at this; exact this
          clear HR hj
          have hb3 : textO t pb = none ∨ (∃ x0 q1, textO t pb = some (x0, q1) ∧ textO t q1 = none) ∨ (∃ x0 q1 x1 q2, textO t pb = some (x0, q1) ∧ textO t q1 = some (x1, q2)) := by
            cases h5 : textO t pb with
            | none => exact Or.inl rfl
            | some y =>
              cases h6 : textO t y.2 with
              | none => exact Or.inr (Or.inl ⟨y.1, y.2, rfl, h6⟩)
              | some z => exact Or.inr (Or.inr ⟨y.1, y.2, z.1, z.2, rfl, h6⟩)
          rcases hb3 with ht1 | ⟨x0, q1, ht1, ht2⟩ | ⟨x0, q1, x1, q2, ht1, ht2⟩
          · as_aux_lemma =>
            have HF : Hid (R = none) := by show _ = _; rw [HRr.out]; exact restBs_no1 ht1
            go_wp2_with fail
            have HS19 := Sta.drew HS11
            refine wp_region_held_drew (S := fun w' => True) (by kernel_rfl) trivial (fun hHeld => ?_)
            generalize wl11.drew = w19 at *
            refine wpAnyH_take (i := 0) (oi := ⟨_, _, _, _, _, _⟩) (v := .pointer (some ⟨w2.heap.size, 2, none⟩)) rfl (by kernel_rfl) (by kernel_rfl) (by kernel_rfl) (fun _ _ _ h => h) (Or.inl ⟨wanted_free rfl, fun w' hSw => ?_⟩) hHeld ?_
            · go_simp
            try simp only [Act.put, List.setIfInBounds_toArray, List.set_cons_zero, List.set_cons_succ]
            refine wpAnyH_take (i := 2) (oi := ⟨_, _, _, _, _, _⟩) (v := .pointer (some ⟨g, 0, none⟩)) rfl (by kernel_rfl) (by kernel_rfl) (by kernel_rfl) (fun _ _ _ h => h) (Or.inl ⟨wanted_free rfl, fun w' hSw => ?_⟩) hHeld ?_
            · go_simp
            try simp only [Act.put, List.setIfInBounds_toArray, List.set_cons_zero, List.set_cons_succ]
            refine wpAnyH_take (i := 3) (oi := ⟨_, _, _, _, _, _⟩) (v := .pointer (some ⟨g, 0, none⟩)) rfl (by kernel_rfl) (by kernel_rfl) (by kernel_rfl) (fun _ _ _ h => h) (Or.inl ⟨wanted_free rfl, fun w' hSw => ?_⟩) hHeld ?_
            · go_simp
            try simp only [Act.put, List.setIfInBounds_toArray, List.set_cons_zero, List.set_cons_succ]
            refine wpAnyH_take (i := 4) (oi := ⟨_, _, _, _, _, _⟩) (v := .pointer (some ⟨g, 0, none⟩)) rfl (by kernel_rfl) (by kernel_rfl) (by kernel_rfl) (fun _ _ _ h => h) (Or.inl ⟨wanted_free rfl, fun w' hSw => ?_⟩) hHeld ?_
            · go_simp
            try simp only [Act.put, List.setIfInBounds_toArray, List.set_cons_zero, List.set_cons_succ]
            refine wpAnyH_take (i := 6) (oi := ⟨_, _, _, _, _, _⟩) (v := .pointer (some ⟨g, 0, none⟩)) rfl (by kernel_rfl) (by kernel_rfl) (by kernel_rfl) (fun _ _ _ h => h) (Or.inl ⟨wanted_free rfl, fun w' hSw => ?_⟩) hHeld ?_
            · go_simp
            try simp only [Act.put, List.setIfInBounds_toArray, List.set_cons_zero, List.set_cons_succ]
            refine wpAnyH_take (i := 7) (oi := ⟨_, _, _, _, _, _⟩) (v := .pointer (some ⟨g, 0, none⟩)) rfl (by kernel_rfl) (by kernel_rfl) (by kernel_rfl) (fun _ _ _ h => h) (Or.inl ⟨wanted_free rfl, fun w' hSw => ?_⟩) hHeld ?_
            · go_simp
            try simp only [Act.put, List.setIfInBounds_toArray, List.set_cons_zero, List.set_cons_succ]
            refine wpAnyH_take (i := 8) (oi := ⟨_, _, _, _, _, _⟩) (v := .pointer (some ⟨g, 0, none⟩)) rfl (by kernel_rfl) (by kernel_rfl) (by kernel_rfl) (fun _ _ _ h => h) (Or.inl ⟨wanted_free rfl, fun w' hSw => ?_⟩) hHeld ?_
            · go_simp
            try simp only [Act.put, List.setIfInBounds_toArray, List.set_cons_zero, List.set_cons_succ]
            refine wpAnyH_ready (rs := [1, 5]) (by kernel_rfl) (by simp) (AllReadyH.cons (o := ⟨_, _, _, _, _, _⟩) rfl (fun K hK => ?_) (AllReadyH.cons (o := ⟨_, _, _, _, _, _⟩) rfl (fun K hK => ?_) AllReadyH.nil))
            · as_aux_lemma =>
              rewrite [if_pos (wanted_free rfl)]
              with_reducible refine wp_load1 39 116 (.tmp 36) (by with_unfolding_all rfl) w2.heap.size 2 (.slice ab nb cb) (by with_unfolding_all rfl) (Sta.c (i := 0) HS19 rfl rfl) Tryd.underlying39 ?_
              refine hK.out _ _ trivial (fun hHeld => ?_)
              clear hK K
              try simp only [Act.put, List.setIfInBounds_toArray, List.set_cons_zero, List.set_cons_succ]
              refine wpAnyH_ready (rs := [5]) (by kernel_rfl) (by simp) (AllReadyH.cons (o := ⟨_, _, _, _, _, _⟩) rfl (fun K hK => ?_) AllReadyH.nil)
              rewrite [if_pos (wanted_free rfl)]
              go_simp
              go_wp2_with fail
              have n20_0 : RowV w19 g [.string t, .int .i64 (pb : Int)] := (Sta.r (i := 2) HS19 rfl :)
              refine (hC9 w19 pb n20_0 ht1 hlb).mono ?_
              rintro r w20 ⟨rfl, hO20⟩
              exact ⟨rfl, ManT.no HF.out ((Sta.only HS19 hg).trans hO20)⟩
            · as_aux_lemma =>
              rewrite [if_pos (wanted_free rfl)]
              go_simp
              go_wp2_with fail
              have n21_0 : RowV w19 g [.string t, .int .i64 (pb : Int)] := (Sta.r (i := 2) HS19 rfl :)
              refine (hC9 w19 pb n21_0 ht1 hlb).mono ?_
              rintro r w21 ⟨rfl, hO21⟩
              exact ⟨rfl, ManT.no HF.out ((Sta.only HS19 hg).trans hO21)⟩
          · as_aux_lemma =>
            have hlq := (textO_some ht1).2.1
            have HF : Hid (R = none) := by show _ = _; rw [HRr.out]; exact restBs_no2 ht1 ht2
            go_wp2_with fail
            have HS22 := Sta.drew HS11
            refine wp_region_held_drew (S := fun w' => True) (by kernel_rfl) trivial (fun hHeld => ?_)
            generalize wl11.drew = w22 at *
            refine wpAnyH_take (i := 0) (oi := ⟨_, _, _, _, _, _⟩) (v := .pointer (some ⟨w2.heap.size, 2, none⟩)) rfl (by kernel_rfl) (by kernel_rfl) (by kernel_rfl) (fun _ _ _ h => h) (Or.inl ⟨wanted_free rfl, fun w' hSw => ?_⟩) hHeld ?_
            · go_simp
            try simp only [Act.put, List.setIfInBounds_toArray, List.set_cons_zero, List.set_cons_succ]
            refine wpAnyH_take (i := 2) (oi := ⟨_, _, _, _, _, _⟩) (v := .pointer (some ⟨g, 0, none⟩)) rfl (by kernel_rfl) (by kernel_rfl) (by kernel_rfl) (fun _ _ _ h => h) (Or.inl ⟨wanted_free rfl, fun w' hSw => ?_⟩) hHeld ?_
            · go_simp
            try simp only [Act.put, List.setIfInBounds_toArray, List.set_cons_zero, List.set_cons_succ]
            refine wpAnyH_take (i := 3) (oi := ⟨_, _, _, _, _, _⟩) (v := .pointer (some ⟨g, 0, none⟩)) rfl (by kernel_rfl) (by kernel_rfl) (by kernel_rfl) (fun _ _ _ h => h) (Or.inl ⟨wanted_free rfl, fun w' hSw => ?_⟩) hHeld ?_
            · go_simp
            try simp only [Act.put, List.setIfInBounds_toArray, List.set_cons_zero, List.set_cons_succ]
            refine wpAnyH_take (i := 4) (oi := ⟨_, _, _, _, _, _⟩) (v := .pointer (some ⟨g, 0, none⟩)) rfl (by kernel_rfl) (by kernel_rfl) (by kernel_rfl) (fun _ _ _ h => h) (Or.inl ⟨wanted_free rfl, fun w' hSw => ?_⟩) hHeld ?_
            · go_simp
            try simp only [Act.put, List.setIfInBounds_toArray, List.set_cons_zero, List.set_cons_succ]
            refine wpAnyH_take (i := 6) (oi := ⟨_, _, _, _, _, _⟩) (v := .pointer (some ⟨g, 0, none⟩)) rfl (by kernel_rfl) (by kernel_rfl) (by kernel_rfl) (fun _ _ _ h => h) (Or.inl ⟨wanted_free rfl, fun w' hSw => ?_⟩) hHeld ?_
            · go_simp
            try simp only [Act.put, List.setIfInBounds_toArray, List.set_cons_zero, List.set_cons_succ]
            refine wpAnyH_take (i := 7) (oi := ⟨_, _, _, _, _, _⟩) (v := .pointer (some ⟨g, 0, none⟩)) rfl (by kernel_rfl) (by kernel_rfl) (by kernel_rfl) (fun _ _ _ h => h) (Or.inl ⟨wanted_free rfl, fun w' hSw => ?_⟩) hHeld ?_
            · go_simp
            try simp only [Act.put, List.setIfInBounds_toArray, List.set_cons_zero, List.set_cons_succ]
            refine wpAnyH_take (i := 8) (oi := ⟨_, _, _, _, _, _⟩) (v := .pointer (some ⟨g, 0, none⟩)) rfl (by kernel_rfl) (by kernel_rfl) (by kernel_rfl) (fun _ _ _ h => h) (Or.inl ⟨wanted_free rfl, fun w' hSw => ?_⟩) hHeld ?_
            · go_simp
            try simp only [Act.put, List.setIfInBounds_toArray, List.set_cons_zero, List.set_cons_succ]
            refine wpAnyH_ready (rs := [1, 5]) (by kernel_rfl) (by simp) (AllReadyH.cons (o := ⟨_, _, _, _, _, _⟩) rfl (fun K hK => ?_) (AllReadyH.cons (o := ⟨_, _, _, _, _, _⟩) rfl (fun K hK => ?_) AllReadyH.nil))
            · as_aux_lemma =>
              rewrite [if_pos (wanted_free rfl)]
              with_reducible refine wp_load1 39 116 (.tmp 36) (by with_unfolding_all rfl) w2.heap.size 2 (.slice ab nb cb) (by with_unfolding_all rfl) (Sta.c (i := 0) HS22 rfl rfl) Tryd.underlying39 ?_
              refine hK.out _ _ trivial (fun hHeld => ?_)
              clear hK K
              try simp only [Act.put, List.setIfInBounds_toArray, List.set_cons_zero, List.set_cons_succ]
              refine wpAnyH_ready (rs := [5]) (by kernel_rfl) (by simp) (AllReadyH.cons (o := ⟨_, _, _, _, _, _⟩) rfl (fun K hK => ?_) AllReadyH.nil)
              rewrite [if_pos (wanted_free rfl)]
              go_simp
              have n23_0 : RowV w22 g [.string t, .int .i64 (pb : Int)] := (Sta.r (i := 2) HS22 rfl :)
              (with_reducible refine (hC10 w22 pb x0 q1 n23_0 ht1 hlb).mono ?_)
              rintro r w23 ⟨rfl, hA23, hO23⟩
              have HS23 := Sta.put 2 HS22 rfl hA23 (by simp) hO23
              clear hA23 hO23
              go_wp2_with fail
              refine hK.out _ _ trivial (fun hHeld => ?_)
              clear hK K
              try simp only [Act.put, List.setIfInBounds_toArray, List.set_cons_zero, List.set_cons_succ]
              refine wpAnyH_ready (rs := [9]) (by kernel_rfl) (by simp) (AllReadyH.cons (o := ⟨_, _, _, _, _, _⟩) rfl (fun K hK => ?_) AllReadyH.nil)
              rewrite [if_pos (wanted_free rfl)]
              go_simp
              go_wp2_with fail
              have n24_0 : RowV w23 g [.string t, .int .i64 (q1 : Int)] := (Sta.r (i := 2) HS23 rfl :)
              refine (hC11 w23 q1 n24_0 ht2 hlq).mono ?_
              rintro r w24 ⟨rfl, hO24⟩
              exact ⟨rfl, ManT.no HF.out ((Sta.only HS23 hg).trans hO24)⟩
            · as_aux_lemma =>
              rewrite [if_pos (wanted_free rfl)]
              go_simp
              have n25_0 : RowV w22 g [.string t, .int .i64 (pb : Int)] := (Sta.r (i := 2) HS22 rfl :)
              (with_reducible refine (hC10 w22 pb x0 q1 n25_0 ht1 hlb).mono ?_)
              rintro r w25 ⟨rfl, hA25, hO25⟩
              have HS25 := Sta.put 2 HS22 rfl hA25 (by simp) hO25
              clear hA25 hO25
              go_wp2_with fail
              refine hK.out _ _ trivial (fun hHeld => ?_)
              clear hK K
              try simp only [Act.put, List.setIfInBounds_toArray, List.set_cons_zero, List.set_cons_succ]
              refine wpAnyH_ready (rs := [1, 9]) (by kernel_rfl) (by simp) (AllReadyH.cons (o := ⟨_, _, _, _, _, _⟩) rfl (fun K hK => ?_) (AllReadyH.cons (o := ⟨_, _, _, _, _, _⟩) rfl (fun K hK => ?_) AllReadyH.nil))
              · as_aux_lemma =>
                rewrite [if_pos (wanted_free rfl)]
                with_reducible refine wp_load1 39 116 (.tmp 36) (by with_unfolding_all rfl) w2.heap.size 2 (.slice ab nb cb) (by with_unfolding_all rfl) (Sta.c (i := 0) HS25 rfl rfl) Tryd.underlying39 ?_
                refine hK.out _ _ trivial (fun hHeld => ?_)
                clear hK K
                try simp only [Act.put, List.setIfInBounds_toArray, List.set_cons_zero, List.set_cons_succ]
                refine wpAnyH_ready (rs := [9]) (by kernel_rfl) (by simp) (AllReadyH.cons (o := ⟨_, _, _, _, _, _⟩) rfl (fun K hK => ?_) AllReadyH.nil)
                rewrite [if_pos (wanted_free rfl)]
                go_simp
                go_wp2_with fail
                have n26_0 : RowV w25 g [.string t, .int .i64 (q1 : Int)] := (Sta.r (i := 2) HS25 rfl :)
                refine (hC11 w25 q1 n26_0 ht2 hlq).mono ?_
                rintro r w26 ⟨rfl, hO26⟩
                exact ⟨rfl, ManT.no HF.out ((Sta.only HS25 hg).trans hO26)⟩
              · as_aux_lemma =>
                rewrite [if_pos (wanted_free rfl)]
                go_simp
                go_wp2_with fail
                have n27_0 : RowV w25 g [.string t, .int .i64 (q1 : Int)] := (Sta.r (i := 2) HS25 rfl :)
                refine (hC11 w25 q1 n27_0 ht2 hlq).mono ?_
                rintro r w27 ⟨rfl, hO27⟩
                exact ⟨rfl, ManT.no HF.out ((Sta.only HS25 hg).trans hO27)⟩
          · as_aux_lemma =>
            have hlq := (textO_some ht1).2.1
            have hlq2 := (textO_some ht2).2.1
            have HXw : Hid (LabV.w ⟨x0, x1⟩) := labsO_w hs' ht1 ht2
            have HRn : Hid (R = restBs t nm la (lb ++ [⟨x0, x1⟩]) j q2) := by show _ = _; rw [HRr.out]; exact restBs_step ht1 ht2
            go_wp2_with fail
            have HS28 := Sta.drew HS11
            refine wp_region_held_drew (S := fun w' => True) (by kernel_rfl) trivial (fun hHeld => ?_)
            generalize wl11.drew = w28 at *
            refine wpAnyH_take (i := 0) (oi := ⟨_, _, _, _, _, _⟩) (v := .pointer (some ⟨w2.heap.size, 2, none⟩)) rfl (by kernel_rfl) (by kernel_rfl) (by kernel_rfl) (fun _ _ _ h => h) (Or.inl ⟨wanted_free rfl, fun w' hSw => ?_⟩) hHeld ?_
            · go_simp
            try simp only [Act.put, List.setIfInBounds_toArray, List.set_cons_zero, List.set_cons_succ]
            refine wpAnyH_take (i := 2) (oi := ⟨_, _, _, _, _, _⟩) (v := .pointer (some ⟨g, 0, none⟩)) rfl (by kernel_rfl) (by kernel_rfl) (by kernel_rfl) (fun _ _ _ h => h) (Or.inl ⟨wanted_free rfl, fun w' hSw => ?_⟩) hHeld ?_
            · go_simp
            try simp only [Act.put, List.setIfInBounds_toArray, List.set_cons_zero, List.set_cons_succ]
            refine wpAnyH_take (i := 3) (oi := ⟨_, _, _, _, _, _⟩) (v := .pointer (some ⟨g, 0, none⟩)) rfl (by kernel_rfl) (by kernel_rfl) (by kernel_rfl) (fun _ _ _ h => h) (Or.inl ⟨wanted_free rfl, fun w' hSw => ?_⟩) hHeld ?_
            · go_simp
            try simp only [Act.put, List.setIfInBounds_toArray, List.set_cons_zero, List.set_cons_succ]
            refine wpAnyH_take (i := 4) (oi := ⟨_, _, _, _, _, _⟩) (v := .pointer (some ⟨g, 0, none⟩)) rfl (by kernel_rfl) (by kernel_rfl) (by kernel_rfl) (fun _ _ _ h => h) (Or.inl ⟨wanted_free rfl, fun w' hSw => ?_⟩) hHeld ?_
            · go_simp
            try simp only [Act.put, List.setIfInBounds_toArray, List.set_cons_zero, List.set_cons_succ]
            refine wpAnyH_take (i := 6) (oi := ⟨_, _, _, _, _, _⟩) (v := .pointer (some ⟨g, 0, none⟩)) rfl (by kernel_rfl) (by kernel_rfl) (by kernel_rfl) (fun _ _ _ h => h) (Or.inl ⟨wanted_free rfl, fun w' hSw => ?_⟩) hHeld ?_
            · go_simp
            try simp only [Act.put, List.setIfInBounds_toArray, List.set_cons_zero, List.set_cons_succ]
            refine wpAnyH_take (i := 7) (oi := ⟨_, _, _, _, _, _⟩) (v := .pointer (some ⟨g, 0, none⟩)) rfl (by kernel_rfl) (by kernel_rfl) (by kernel_rfl) (fun _ _ _ h => h) (Or.inl ⟨wanted_free rfl, fun w' hSw => ?_⟩) hHeld ?_
            · go_simp
            try simp only [Act.put, List.setIfInBounds_toArray, List.set_cons_zero, List.set_cons_succ]
            refine wpAnyH_take (i := 8) (oi := ⟨_, _, _, _, _, _⟩) (v := .pointer (some ⟨g, 0, none⟩)) rfl (by kernel_rfl) (by kernel_rfl) (by kernel_rfl) (fun _ _ _ h => h) (Or.inl ⟨wanted_free rfl, fun w' hSw => ?_⟩) hHeld ?_
            · go_simp
            try simp only [Act.put, List.setIfInBounds_toArray, List.set_cons_zero, List.set_cons_succ]
            refine wpAnyH_ready (rs := [1, 5]) (by kernel_rfl) (by simp) (AllReadyH.cons (o := ⟨_, _, _, _, _, _⟩) rfl (fun K hK => ?_) (AllReadyH.cons (o := ⟨_, _, _, _, _, _⟩) rfl (fun K hK => ?_) AllReadyH.nil))
            · as_aux_lemma =>
              rewrite [if_pos (wanted_free rfl)]
              with_reducible refine wp_load1 39 116 (.tmp 36) (by with_unfolding_all rfl) w2.heap.size 2 (.slice ab nb cb) (by with_unfolding_all rfl) (Sta.c (i := 0) HS28 rfl rfl) Tryd.underlying39 ?_
              refine hK.out _ _ trivial (fun hHeld => ?_)
              clear hK K
              try simp only [Act.put, List.setIfInBounds_toArray, List.set_cons_zero, List.set_cons_succ]
              refine wpAnyH_ready (rs := [5]) (by kernel_rfl) (by simp) (AllReadyH.cons (o := ⟨_, _, _, _, _, _⟩) rfl (fun K hK => ?_) AllReadyH.nil)
              rewrite [if_pos (wanted_free rfl)]
              go_simp
              have n29_0 : RowV w28 g [.string t, .int .i64 (pb : Int)] := (Sta.r (i := 2) HS28 rfl :)
              (with_reducible refine (hC10 w28 pb x0 q1 n29_0 ht1 hlb).mono ?_)
              rintro r w29 ⟨rfl, hA29, hO29⟩
              have HS29 := Sta.put 2 HS28 rfl hA29 (by simp) hO29
              clear hA29 hO29
              go_wp2_with fail
              refine hK.out _ _ trivial (fun hHeld => ?_)
              clear hK K
              try simp only [Act.put, List.setIfInBounds_toArray, List.set_cons_zero, List.set_cons_succ]
              refine wpAnyH_ready (rs := [9]) (by kernel_rfl) (by simp) (AllReadyH.cons (o := ⟨_, _, _, _, _, _⟩) rfl (fun K hK => ?_) AllReadyH.nil)
              rewrite [if_pos (wanted_free rfl)]
              go_simp
              have n30_0 : RowV w29 g [.string t, .int .i64 (q1 : Int)] := (Sta.r (i := 2) HS29 rfl :)
              (with_reducible refine (hC12 w29 q1 x1 q2 n30_0 ht2 hlq).mono ?_)
              rintro r w30 ⟨rfl, hA30, hO30⟩
              have HS30 := Sta.put 2 HS29 rfl hA30 (by simp) hO30
              clear hA30 hO30
              go_wp2_with fail
              refine hK.out _ _ trivial (fun hHeld => ?_)
              clear hK K
              try simp only [Act.put, List.setIfInBounds_toArray, List.set_cons_zero, List.set_cons_succ]
              refine wpAnyH_take (i := 10) (oi := ⟨_, _, _, _, _, _⟩) (v := .agg #[.string x0, .string x1]) rfl (by kernel_rfl) (by kernel_rfl) (by kernel_rfl) (fun _ _ _ h => h) (Or.inl ⟨wanted_free rfl, fun w' hSw => ?_⟩) hHeld ?_
              · go_simp
              try simp only [Act.put, List.setIfInBounds_toArray, List.set_cons_zero, List.set_cons_succ]
              refine wpAnyH_ready (rs := [11]) (by kernel_rfl) (by simp) (AllReadyH.cons (o := ⟨_, _, _, _, _, _⟩) rfl (fun K hK => ?_) AllReadyH.nil)
              rewrite [if_pos (wanted_free rfl)]
              with_reducible refine wp_buildLab (.tmp 46) (by with_unfolding_all rfl) x0 x1 (by with_unfolding_all rfl) ?_
              intro w31 hA31 hB31
              have HS31 := Sta.new HS30 hA31 hB31 (by simp [labv])
              clear hA31 hB31
              refine hK.out _ _ trivial (fun hHeld => ?_)
              clear hK K
              try simp only [Act.put, List.setIfInBounds_toArray, List.set_cons_zero, List.set_cons_succ]
              refine wpAnyH_ready (rs := [12]) (by kernel_rfl) (by simp) (AllReadyH.cons (o := ⟨_, _, _, _, _, _⟩) rfl (fun K hK => ?_) AllReadyH.nil)
              rewrite [if_pos (wanted_free rfl)]
              with_reducible refine wp_appendLab (W := w31) (.tmp 37) (.tmp 47) (by with_unfolding_all rfl) w.heap.size (.slice ab nb cb) lb ⟨x0, x1⟩ (by with_unfolding_all rfl) (Sta.t (i := 0) HS31 rfl) w30.heap.size (by with_unfolding_all rfl) (Sta.r (i := 0) HS31 (by with_unfolding_all rfl)) (by have := HLb.out; omega) (Sta.size HS31) ?_
              intro v32 w32 hO32 hG32 hb32
              obtain ⟨a32, m32, c32, hm32, rfl⟩ := LabO.form hO32
              have HS32 := Sta.app 0 HS31 rfl (Nat.le_refl _) hO32 hG32 hb32
              have Hm32 := hidP hm32
              clear hO32 hG32 hb32 hm32
              refine hK.out _ _ trivial (fun hHeld => ?_)
              clear hK K
              try simp only [Act.put, List.setIfInBounds_toArray, List.set_cons_zero, List.set_cons_succ]
              refine wpAnyH_take (i := 13) (oi := ⟨_, _, _, _, _, _⟩) (v := .pointer (some ⟨w2.heap.size, 2, none⟩)) rfl (by kernel_rfl) (by kernel_rfl) (by kernel_rfl) (fun _ _ _ h => h) (Or.inl ⟨wanted_free rfl, fun w' hSw => ?_⟩) hHeld ?_
              · go_simp
              try simp only [Act.put, List.setIfInBounds_toArray, List.set_cons_zero, List.set_cons_succ]
              refine wpAnyH_ready (rs := [14]) (by kernel_rfl) (by simp) (AllReadyH.cons (o := ⟨_, _, _, _, _, _⟩) rfl (fun K hK => ?_) AllReadyH.nil)
              rewrite [if_pos (wanted_free rfl)]
              with_reducible refine wp_cellO 39 (.tmp 49) (.tmp 48) (by with_unfolding_all rfl) w2.heap.size 2 [.string nm, .slice aa na ca, .slice ab nb cb] [.string nm, .slice aa na ca, .slice a32 m32 c32] (.slice a32 m32 c32) (by with_unfolding_all rfl) (by with_unfolding_all rfl) (by with_unfolding_all rfl) Tryd.s1_slimplLabel (Sta.r (i := 1) HS32 (by with_unfolding_all rfl)) (by simp) (by with_unfolding_all rfl) ?_
              intro w33 hA33 hO33
              have HS33 := Sta.put 1 HS32 rfl hA33 (by simp) hO33
              clear hA33 hO33
              refine hK.out _ _ trivial (fun hHeld => ?_)
              clear hK K
              try simp only [Act.put]
              refine wpAnyH_done (by kernel_rfl) ?_ _
              clear hHeld
              go_wp2_with fail
              go_roundw
              case rel => exact ⟨k + 1, q2, a32, m32, c32, (lb ++ ([⟨x0, x1⟩] : List LabV)), by go_num, hlt11, hlq2, by show _ = _; rw [List.length_append, HLb.out]; rfl, fun x hx => by rcases List.mem_append.1 hx with hx | hx; exact HWb.out x hx; cases List.mem_singleton.1 hx; exact HXw.out, by show _ = _; rw [hj2]; exact HRn.out, Sta.drop 1 0 HS33⟩
              case measure => simp [intOf]; omega
            · as_aux_lemma =>
              rewrite [if_pos (wanted_free rfl)]
              go_simp
              have n34_0 : RowV w28 g [.string t, .int .i64 (pb : Int)] := (Sta.r (i := 2) HS28 rfl :)
              (with_reducible refine (hC10 w28 pb x0 q1 n34_0 ht1 hlb).mono ?_)
              rintro r w34 ⟨rfl, hA34, hO34⟩
              have HS34 := Sta.put 2 HS28 rfl hA34 (by simp) hO34
              clear hA34 hO34
              go_wp2_with fail
              refine hK.out _ _ trivial (fun hHeld => ?_)
              clear hK K
              try simp only [Act.put, List.setIfInBounds_toArray, List.set_cons_zero, List.set_cons_succ]
              refine wpAnyH_ready (rs := [1, 9]) (by kernel_rfl) (by simp) (AllReadyH.cons (o := ⟨_, _, _, _, _, _⟩) rfl (fun K hK => ?_) (AllReadyH.cons (o := ⟨_, _, _, _, _, _⟩) rfl (fun K hK => ?_) AllReadyH.nil))
              · as_aux_lemma =>
                rewrite [if_pos (wanted_free rfl)]
                with_reducible refine wp_load1 39 116 (.tmp 36) (by with_unfolding_all rfl) w2.heap.size 2 (.slice ab nb cb) (by with_unfolding_all rfl) (Sta.c (i := 0) HS34 rfl rfl) Tryd.underlying39 ?_
                refine hK.out _ _ trivial (fun hHeld => ?_)
                clear hK K
                try simp only [Act.put, List.setIfInBounds_toArray, List.set_cons_zero, List.set_cons_succ]
                refine wpAnyH_ready (rs := [9]) (by kernel_rfl) (by simp) (AllReadyH.cons (o := ⟨_, _, _, _, _, _⟩) rfl (fun K hK => ?_) AllReadyH.nil)
                rewrite [if_pos (wanted_free rfl)]
                go_simp
                have n35_0 : RowV w34 g [.string t, .int .i64 (q1 : Int)] := (Sta.r (i := 2) HS34 rfl :)
                (with_reducible refine (hC12 w34 q1 x1 q2 n35_0 ht2 hlq).mono ?_)
                rintro r w35 ⟨rfl, hA35, hO35⟩
                have HS35 := Sta.put 2 HS34 rfl hA35 (by simp) hO35
                clear hA35 hO35
                go_wp2_with fail
                refine hK.out _ _ trivial (fun hHeld => ?_)
                clear hK K
                try simp only [Act.put, List.setIfInBounds_toArray, List.set_cons_zero, List.set_cons_succ]
                refine wpAnyH_take (i := 10) (oi := ⟨_, _, _, _, _, _⟩) (v := .agg #[.string x0, .string x1]) rfl (by kernel_rfl) (by kernel_rfl) (by kernel_rfl) (fun _ _ _ h => h) (Or.inl ⟨wanted_free rfl, fun w' hSw => ?_⟩) hHeld ?_
                · go_simp
                try simp only [Act.put, List.setIfInBounds_toArray, List.set_cons_zero, List.set_cons_succ]
                refine wpAnyH_ready (rs := [11]) (by kernel_rfl) (by simp) (AllReadyH.cons (o := ⟨_, _, _, _, _, _⟩) rfl (fun K hK => ?_) AllReadyH.nil)
                rewrite [if_pos (wanted_free rfl)]
                with_reducible refine wp_buildLab (.tmp 46) (by with_unfolding_all rfl) x0 x1 (by with_unfolding_all rfl) ?_
                intro w36 hA36 hB36
                have HS36 := Sta.new HS35 hA36 hB36 (by simp [labv])
                clear hA36 hB36
                refine hK.out _ _ trivial (fun hHeld => ?_)
                clear hK K
                try simp only [Act.put, List.setIfInBounds_toArray, List.set_cons_zero, List.set_cons_succ]
                refine wpAnyH_ready (rs := [12]) (by kernel_rfl) (by simp) (AllReadyH.cons (o := ⟨_, _, _, _, _, _⟩) rfl (fun K hK => ?_) AllReadyH.nil)
                rewrite [if_pos (wanted_free rfl)]
                with_reducible refine wp_appendLab (W := w36) (.tmp 37) (.tmp 47) (by with_unfolding_all rfl) w.heap.size (.slice ab nb cb) lb ⟨x0, x1⟩ (by with_unfolding_all rfl) (Sta.t (i := 0) HS36 rfl) w35.heap.size (by with_unfolding_all rfl) (Sta.r (i := 0) HS36 (by with_unfolding_all rfl)) (by have := HLb.out; omega) (Sta.size HS36) ?_
                intro v37 w37 hO37 hG37 hb37
                obtain ⟨a37, m37, c37, hm37, rfl⟩ := LabO.form hO37
                have HS37 := Sta.app 0 HS36 rfl (Nat.le_refl _) hO37 hG37 hb37
                have Hm37 := hidP hm37
                clear hO37 hG37 hb37 hm37
                refine hK.out _ _ trivial (fun hHeld => ?_)
                clear hK K
                try simp only [Act.put, List.setIfInBounds_toArray, List.set_cons_zero, List.set_cons_succ]
                refine wpAnyH_take (i := 13) (oi := ⟨_, _, _, _, _, _⟩) (v := .pointer (some ⟨w2.heap.size, 2, none⟩)) rfl (by kernel_rfl) (by kernel_rfl) (by kernel_rfl) (fun _ _ _ h => h) (Or.inl ⟨wanted_free rfl, fun w' hSw => ?_⟩) hHeld ?_
                · go_simp
                try simp only [Act.put, List.setIfInBounds_toArray, List.set_cons_zero, List.set_cons_succ]
                refine wpAnyH_ready (rs := [14]) (by kernel_rfl) (by simp) (AllReadyH.cons (o := ⟨_, _, _, _, _, _⟩) rfl (fun K hK => ?_) AllReadyH.nil)
                rewrite [if_pos (wanted_free rfl)]
                with_reducible refine wp_cellO 39 (.tmp 49) (.tmp 48) (by with_unfolding_all rfl) w2.heap.size 2 [.string nm, .slice aa na ca, .slice ab nb cb] [.string nm, .slice aa na ca, .slice a37 m37 c37] (.slice a37 m37 c37) (by with_unfolding_all rfl) (by with_unfolding_all rfl) (by with_unfolding_all rfl) Tryd.s1_slimplLabel (Sta.r (i := 1) HS37 (by with_unfolding_all rfl)) (by simp) (by with_unfolding_all rfl) ?_
                intro w38 hA38 hO38
                have HS38 := Sta.put 1 HS37 rfl hA38 (by simp) hO38
                clear hA38 hO38
                refine hK.out _ _ trivial (fun hHeld => ?_)
                clear hK K
                try simp only [Act.put]
                refine wpAnyH_done (by kernel_rfl) ?_ _
                clear hHeld
                go_wp2_with fail
                go_roundw
                case rel => exact ⟨k + 1, q2, a37, m37, c37, (lb ++ ([⟨x0, x1⟩] : List LabV)), by go_num, hlt11, hlq2, by show _ = _; rw [List.length_append, HLb.out]; rfl, fun x hx => by rcases List.mem_append.1 hx with hx | hx; exact HWb.out x hx; cases List.mem_singleton.1 hx; exact HXw.out, by show _ = _; rw [hj2]; exact HRn.out, Sta.drop 1 0 HS38⟩
                case measure => simp [intOf]; omega
              · as_aux_lemma =>
                rewrite [if_pos (wanted_free rfl)]
                go_simp
                have n39_0 : RowV w34 g [.string t, .int .i64 (q1 : Int)] := (Sta.r (i := 2) HS34 rfl :)
                (with_reducible refine (hC12 w34 q1 x1 q2 n39_0 ht2 hlq).mono ?_)
                rintro r w39 ⟨rfl, hA39, hO39⟩
                have HS39 := Sta.put 2 HS34 rfl hA39 (by simp) hO39
                clear hA39 hO39
                go_wp2_with fail
                refine hK.out _ _ trivial (fun hHeld => ?_)
                clear hK K
                try simp only [Act.put, List.setIfInBounds_toArray, List.set_cons_zero, List.set_cons_succ]
                refine wpAnyH_take (i := 10) (oi := ⟨_, _, _, _, _, _⟩) (v := .agg #[.string x0, .string x1]) rfl (by kernel_rfl) (by kernel_rfl) (by kernel_rfl) (fun _ _ _ h => h) (Or.inl ⟨wanted_free rfl, fun w' hSw => ?_⟩) hHeld ?_
                · go_simp
                try simp only [Act.put, List.setIfInBounds_toArray, List.set_cons_zero, List.set_cons_succ]
                refine wpAnyH_ready (rs := [1, 11]) (by kernel_rfl) (by simp) (AllReadyH.cons (o := ⟨_, _, _, _, _, _⟩) rfl (fun K hK => ?_) (AllReadyH.cons (o := ⟨_, _, _, _, _, _⟩) rfl (fun K hK => ?_) AllReadyH.nil))
                · as_aux_lemma =>
                  rewrite [if_pos (wanted_free rfl)]
                  with_reducible refine wp_load1 39 116 (.tmp 36) (by with_unfolding_all rfl) w2.heap.size 2 (.slice ab nb cb) (by with_unfolding_all rfl) (Sta.c (i := 0) HS39 rfl rfl) Tryd.underlying39 ?_
                  refine hK.out _ _ trivial (fun hHeld => ?_)
                  clear hK K
                  try simp only [Act.put, List.setIfInBounds_toArray, List.set_cons_zero, List.set_cons_succ]
                  refine wpAnyH_ready (rs := [11]) (by kernel_rfl) (by simp) (AllReadyH.cons (o := ⟨_, _, _, _, _, _⟩) rfl (fun K hK => ?_) AllReadyH.nil)
                  rewrite [if_pos (wanted_free rfl)]
                  with_reducible refine wp_buildLab (.tmp 46) (by with_unfolding_all rfl) x0 x1 (by with_unfolding_all rfl) ?_
                  intro w40 hA40 hB40
                  have HS40 := Sta.new HS39 hA40 hB40 (by simp [labv])
                  clear hA40 hB40
                  refine hK.out _ _ trivial (fun hHeld => ?_)
                  clear hK K
                  try simp only [Act.put, List.setIfInBounds_toArray, List.set_cons_zero, List.set_cons_succ]
                  refine wpAnyH_ready (rs := [12]) (by kernel_rfl) (by simp) (AllReadyH.cons (o := ⟨_, _, _, _, _, _⟩) rfl (fun K hK => ?_) AllReadyH.nil)
                  rewrite [if_pos (wanted_free rfl)]
                  with_reducible refine wp_appendLab (W := w40) (.tmp 37) (.tmp 47) (by with_unfolding_all rfl) w.heap.size (.slice ab nb cb) lb ⟨x0, x1⟩ (by with_unfolding_all rfl) (Sta.t (i := 0) HS40 rfl) w39.heap.size (by with_unfolding_all rfl) (Sta.r (i := 0) HS40 (by with_unfolding_all rfl)) (by have := HLb.out; omega) (Sta.size HS40) ?_
                  intro v41 w41 hO41 hG41 hb41
                  obtain ⟨a41, m41, c41, hm41, rfl⟩ := LabO.form hO41
                  have HS41 := Sta.app 0 HS40 rfl (Nat.le_refl _) hO41 hG41 hb41
                  have Hm41 := hidP hm41
                  clear hO41 hG41 hb41 hm41
                  refine hK.out _ _ trivial (fun hHeld => ?_)
                  clear hK K
                  try simp only [Act.put, List.setIfInBounds_toArray, List.set_cons_zero, List.set_cons_succ]
                  refine wpAnyH_take (i := 13) (oi := ⟨_, _, _, _, _, _⟩) (v := .pointer (some ⟨w2.heap.size, 2, none⟩)) rfl (by kernel_rfl) (by kernel_rfl) (by kernel_rfl) (fun _ _ _ h => h) (Or.inl ⟨wanted_free rfl, fun w' hSw => ?_⟩) hHeld ?_
                  · go_simp
                  try simp only [Act.put, List.setIfInBounds_toArray, List.set_cons_zero, List.set_cons_succ]
                  refine wpAnyH_ready (rs := [14]) (by kernel_rfl) (by simp) (AllReadyH.cons (o := ⟨_, _, _, _, _, _⟩) rfl (fun K hK => ?_) AllReadyH.nil)
                  rewrite [if_pos (wanted_free rfl)]
                  with_reducible refine wp_cellO 39 (.tmp 49) (.tmp 48) (by with_unfolding_all rfl) w2.heap.size 2 [.string nm, .slice aa na ca, .slice ab nb cb] [.string nm, .slice aa na ca, .slice a41 m41 c41] (.slice a41 m41 c41) (by with_unfolding_all rfl) (by with_unfolding_all rfl) (by with_unfolding_all rfl) Tryd.s1_slimplLabel (Sta.r (i := 1) HS41 (by with_unfolding_all rfl)) (by simp) (by with_unfolding_all rfl) ?_
                  intro w42 hA42 hO42
                  have HS42 := Sta.put 1 HS41 rfl hA42 (by simp) hO42
                  clear hA42 hO42
                  refine hK.out _ _ trivial (fun hHeld => ?_)
                  clear hK K
                  try simp only [Act.put]
                  refine wpAnyH_done (by kernel_rfl) ?_ _
                  clear hHeld
                  go_wp2_with fail
                  go_roundw
                  case rel => exact ⟨k + 1, q2, a41, m41, c41, (lb ++ ([⟨x0, x1⟩] : List LabV)), by go_num, hlt11, hlq2, by show _ = _; rw [List.length_append, HLb.out]; rfl, fun x hx => by rcases List.mem_append.1 hx with hx | hx; exact HWb.out x hx; cases List.mem_singleton.1 hx; exact HXw.out, by show _ = _; rw [hj2]; exact HRn.out, Sta.drop 1 0 HS42⟩
                  case measure => simp [intOf]; omega
                · as_aux_lemma =>
                  rewrite [if_pos (wanted_free rfl)]
                  with_reducible refine wp_buildLab (.tmp 46) (by with_unfolding_all rfl) x0 x1 (by with_unfolding_all rfl) ?_
                  intro w43 hA43 hB43
                  have HS43 := Sta.new HS39 hA43 hB43 (by simp [labv])
                  clear hA43 hB43
                  refine hK.out _ _ trivial (fun hHeld => ?_)
                  clear hK K
                  try simp only [Act.put, List.setIfInBounds_toArray, List.set_cons_zero, List.set_cons_succ]
                  refine wpAnyH_ready (rs := [1]) (by kernel_rfl) (by simp) (AllReadyH.cons (o := ⟨_, _, _, _, _, _⟩) rfl (fun K hK => ?_) AllReadyH.nil)
                  rewrite [if_pos (wanted_free rfl)]
                  with_reducible refine wp_load1 39 116 (.tmp 36) (by with_unfolding_all rfl) w2.heap.size 2 (.slice ab nb cb) (by with_unfolding_all rfl) (Sta.c (i := 1) HS43 rfl rfl) Tryd.underlying39 ?_
                  refine hK.out _ _ trivial (fun hHeld => ?_)
                  clear hK K
                  try simp only [Act.put, List.setIfInBounds_toArray, List.set_cons_zero, List.set_cons_succ]
                  refine wpAnyH_ready (rs := [12]) (by kernel_rfl) (by simp) (AllReadyH.cons (o := ⟨_, _, _, _, _, _⟩) rfl (fun K hK => ?_) AllReadyH.nil)
                  rewrite [if_pos (wanted_free rfl)]
                  with_reducible refine wp_appendLab (W := w43) (.tmp 37) (.tmp 47) (by with_unfolding_all rfl) w.heap.size (.slice ab nb cb) lb ⟨x0, x1⟩ (by with_unfolding_all rfl) (Sta.t (i := 0) HS43 rfl) w39.heap.size (by with_unfolding_all rfl) (Sta.r (i := 0) HS43 (by with_unfolding_all rfl)) (by have := HLb.out; omega) (Sta.size HS43) ?_
                  intro v44 w44 hO44 hG44 hb44
                  obtain ⟨a44, m44, c44, hm44, rfl⟩ := LabO.form hO44
                  have HS44 := Sta.app 0 HS43 rfl (Nat.le_refl _) hO44 hG44 hb44
                  have Hm44 := hidP hm44
                  clear hO44 hG44 hb44 hm44
                  refine hK.out _ _ trivial (fun hHeld => ?_)
                  clear hK K
                  try simp only [Act.put, List.setIfInBounds_toArray, List.set_cons_zero, List.set_cons_succ]
                  refine wpAnyH_take (i := 13) (oi := ⟨_, _, _, _, _, _⟩) (v := .pointer (some ⟨w2.heap.size, 2, none⟩)) rfl (by kernel_rfl) (by kernel_rfl) (by kernel_rfl) (fun _ _ _ h => h) (Or.inl ⟨wanted_free rfl, fun w' hSw => ?_⟩) hHeld ?_
                  · go_simp
                  try simp only [Act.put, List.setIfInBounds_toArray, List.set_cons_zero, List.set_cons_succ]
                  refine wpAnyH_ready (rs := [14]) (by kernel_rfl) (by simp) (AllReadyH.cons (o := ⟨_, _, _, _, _, _⟩) rfl (fun K hK => ?_) AllReadyH.nil)
                  rewrite [if_pos (wanted_free rfl)]
                  with_reducible refine wp_cellO 39 (.tmp 49) (.tmp 48) (by with_unfolding_all rfl) w2.heap.size 2 [.string nm, .slice aa na ca, .slice ab nb cb] [.string nm, .slice aa na ca, .slice a44 m44 c44] (.slice a44 m44 c44) (by with_unfolding_all rfl) (by with_unfolding_all rfl) (by with_unfolding_all rfl) Tryd.s1_slimplLabel (Sta.r (i := 1) HS44 (by with_unfolding_all rfl)) (by simp) (by with_unfolding_all rfl) ?_
                  intro w45 hA45 hO45
                  have HS45 := Sta.put 1 HS44 rfl hA45 (by simp) hO45
                  clear hA45 hO45
                  refine hK.out _ _ trivial (fun hHeld => ?_)
                  clear hK K
                  try simp only [Act.put]
                  refine wpAnyH_done (by kernel_rfl) ?_ _
                  clear hHeld
                  go_wp2_with fail
                  go_roundw
                  case rel => exact ⟨k + 1, q2, a44, m44, c44, (lb ++ ([⟨x0, x1⟩] : List LabV)), by go_num, hlt11, hlq2, by show _ = _; rw [List.length_append, HLb.out]; rfl, fun x hx => by rcases List.mem_append.1 hx with hx | hx; exact HWb.out x hx; cases List.mem_singleton.1 hx; exact HXw.out, by show _ = _; rw [hj2]; exact HRn.out, Sta.drop 1 0 HS45⟩
                  case measure => simp [intOf]; omega
    have lk7 : (k : Int) < m := by omega
    have l07 : (0 : Int) ≤ k := by omega
    have hla := HPa.out
    obtain ⟨j, hj⟩ : ∃ j, m - k = j + 1 := ⟨m - k - 1, by omega⟩
    have hj2 : m - (k + 1) = j := by omega
    have HRr : Hid (R = restLs t nm la (j + 1) pa) := by have := HR.out; rw [hj] at this; exact this
    clear HR hj
    have hb3 : bytesO t pa 32 = none ∨ (∃ x0 q1, bytesO t pa 32 = some (x0, q1) ∧ numO t q1 = none) ∨ (∃ x0 q1 x1 q2, bytesO t pa 32 = some (x0, q1) ∧ numO t q1 = some (x1, q2)) := by
      cases h5 : bytesO t pa 32 with
      | none => exact Or.inl rfl
      | some y =>
        cases h6 : numO t y.2 with
        | none => exact Or.inr (Or.inl ⟨y.1, y.2, rfl, h6⟩)
        | some z => exact Or.inr (Or.inr ⟨y.1, y.2, z.1, z.2, rfl, h6⟩)
    rcases hb3 with ht1 | ⟨x0, q1, ht1, ht2⟩ | ⟨x0, q1, x1, q2, ht1, ht2⟩
    · as_aux_lemma =>
      have HF : Hid (R = none) := by show _ = _; rw [HRr.out]; exact restLs_no1 ht1
      go_wp2_with fail
      have HS46 := Sta.drew HS7
      refine wp_region_held_drew (S := fun w' => True) (by kernel_rfl) trivial (fun hHeld => ?_)
      generalize wl7.drew = w46 at *
      refine wpAnyH_take (i := 0) (oi := ⟨_, _, _, _, _, _⟩) (v := .pointer (some ⟨w2.heap.size, 1, none⟩)) rfl (by kernel_rfl) (by kernel_rfl) (by kernel_rfl) (fun _ _ _ h => h) (Or.inl ⟨wanted_free rfl, fun w' hSw => ?_⟩) hHeld ?_
      · go_simp
      try simp only [Act.put, List.setIfInBounds_toArray, List.set_cons_zero, List.set_cons_succ]
      refine wpAnyH_take (i := 2) (oi := ⟨_, _, _, _, _, _⟩) (v := .pointer (some ⟨g, 0, none⟩)) rfl (by kernel_rfl) (by kernel_rfl) (by kernel_rfl) (fun _ _ _ h => h) (Or.inl ⟨wanted_free rfl, fun w' hSw => ?_⟩) hHeld ?_
      · go_simp
      try simp only [Act.put, List.setIfInBounds_toArray, List.set_cons_zero, List.set_cons_succ]
      refine wpAnyH_take (i := 3) (oi := ⟨_, _, _, _, _, _⟩) (v := .pointer (some ⟨g, 0, none⟩)) rfl (by kernel_rfl) (by kernel_rfl) (by kernel_rfl) (fun _ _ _ h => h) (Or.inl ⟨wanted_free rfl, fun w' hSw => ?_⟩) hHeld ?_
      · go_simp
      try simp only [Act.put, List.setIfInBounds_toArray, List.set_cons_zero, List.set_cons_succ]
      refine wpAnyH_take (i := 4) (oi := ⟨_, _, _, _, _, _⟩) (v := .pointer (some ⟨g, 0, none⟩)) rfl (by kernel_rfl) (by kernel_rfl) (by kernel_rfl) (fun _ _ _ h => h) (Or.inl ⟨wanted_free rfl, fun w' hSw => ?_⟩) hHeld ?_
      · go_simp
      try simp only [Act.put, List.setIfInBounds_toArray, List.set_cons_zero, List.set_cons_succ]
      refine wpAnyH_take (i := 6) (oi := ⟨_, _, _, _, _, _⟩) (v := .pointer (some ⟨g, 0, none⟩)) rfl (by kernel_rfl) (by kernel_rfl) (by kernel_rfl) (fun _ _ _ h => h) (Or.inl ⟨wanted_free rfl, fun w' hSw => ?_⟩) hHeld ?_
      · go_simp
      try simp only [Act.put, List.setIfInBounds_toArray, List.set_cons_zero, List.set_cons_succ]
      refine wpAnyH_take (i := 7) (oi := ⟨_, _, _, _, _, _⟩) (v := .pointer (some ⟨g, 0, none⟩)) rfl (by kernel_rfl) (by kernel_rfl) (by kernel_rfl) (fun _ _ _ h => h) (Or.inl ⟨wanted_free rfl, fun w' hSw => ?_⟩) hHeld ?_
      · go_simp
      try simp only [Act.put, List.setIfInBounds_toArray, List.set_cons_zero, List.set_cons_succ]
      refine wpAnyH_take (i := 8) (oi := ⟨_, _, _, _, _, _⟩) (v := .pointer (some ⟨g, 0, none⟩)) rfl (by kernel_rfl) (by kernel_rfl) (by kernel_rfl) (fun _ _ _ h => h) (Or.inl ⟨wanted_free rfl, fun w' hSw => ?_⟩) hHeld ?_
      · go_simp
      try simp only [Act.put, List.setIfInBounds_toArray, List.set_cons_zero, List.set_cons_succ]
      refine wpAnyH_ready (rs := [1, 5]) (by kernel_rfl) (by simp) (AllReadyH.cons (o := ⟨_, _, _, _, _, _⟩) rfl (fun K hK => ?_) (AllReadyH.cons (o := ⟨_, _, _, _, _, _⟩) rfl (fun K hK => ?_) AllReadyH.nil))
      · as_aux_lemma =>
        rewrite [if_pos (wanted_free rfl)]
        with_reducible refine wp_load1 38 85 (.tmp 15) (by with_unfolding_all rfl) w2.heap.size 1 (.slice aa na ca) (by with_unfolding_all rfl) (Sta.c (i := 0) HS46 rfl rfl) Tryd.underlying38 ?_
        refine hK.out _ _ trivial (fun hHeld => ?_)
        clear hK K
        try simp only [Act.put, List.setIfInBounds_toArray, List.set_cons_zero, List.set_cons_succ]
        refine wpAnyH_ready (rs := [5]) (by kernel_rfl) (by simp) (AllReadyH.cons (o := ⟨_, _, _, _, _, _⟩) rfl (fun K hK => ?_) AllReadyH.nil)
        rewrite [if_pos (wanted_free rfl)]
        go_simp
        go_wp2_with fail
        have n47_0 : RowV w46 g [.string t, .int .i64 (pa : Int)] := (Sta.r (i := 2) HS46 rfl :)
        refine (hC13 w46 pa n47_0 ht1 hla).mono ?_
        rintro r w47 ⟨rfl, hO47⟩
        exact ⟨rfl, ManT.no HF.out ((Sta.only HS46 hg).trans hO47)⟩
      · as_aux_lemma =>
        rewrite [if_pos (wanted_free rfl)]
        go_simp
        go_wp2_with fail
        have n48_0 : RowV w46 g [.string t, .int .i64 (pa : Int)] := (Sta.r (i := 2) HS46 rfl :)
        refine (hC13 w46 pa n48_0 ht1 hla).mono ?_
        rintro r w48 ⟨rfl, hO48⟩
        exact ⟨rfl, ManT.no HF.out ((Sta.only HS46 hg).trans hO48)⟩
    · as_aux_lemma =>
      have hlq := (bytesO_yes ht1).2.2
      have HF : Hid (R = none) := by show _ = _; rw [HRr.out]; exact restLs_no2 ht1 ht2
      go_wp2_with fail
      have HS49 := Sta.drew HS7
      refine wp_region_held_drew (S := fun w' => True) (by kernel_rfl) trivial (fun hHeld => ?_)
      generalize wl7.drew = w49 at *
      refine wpAnyH_take (i := 0) (oi := ⟨_, _, _, _, _, _⟩) (v := .pointer (some ⟨w2.heap.size, 1, none⟩)) rfl (by kernel_rfl) (by kernel_rfl) (by kernel_rfl) (fun _ _ _ h => h) (Or.inl ⟨wanted_free rfl, fun w' hSw => ?_⟩) hHeld ?_
      · go_simp
      try simp only [Act.put, List.setIfInBounds_toArray, List.set_cons_zero, List.set_cons_succ]
      refine wpAnyH_take (i := 2) (oi := ⟨_, _, _, _, _, _⟩) (v := .pointer (some ⟨g, 0, none⟩)) rfl (by kernel_rfl) (by kernel_rfl) (by kernel_rfl) (fun _ _ _ h => h) (Or.inl ⟨wanted_free rfl, fun w' hSw => ?_⟩) hHeld ?_
      · go_simp
      try simp only [Act.put, List.setIfInBounds_toArray, List.set_cons_zero, List.set_cons_succ]
      refine wpAnyH_take (i := 3) (oi := ⟨_, _, _, _, _, _⟩) (v := .pointer (some ⟨g, 0, none⟩)) rfl (by kernel_rfl) (by kernel_rfl) (by kernel_rfl) (fun _ _ _ h => h) (Or.inl ⟨wanted_free rfl, fun w' hSw => ?_⟩) hHeld ?_
      · go_simp
      try simp only [Act.put, List.setIfInBounds_toArray, List.set_cons_zero, List.set_cons_succ]
      refine wpAnyH_take (i := 4) (oi := ⟨_, _, _, _, _, _⟩) (v := .pointer (some ⟨g, 0, none⟩)) rfl (by kernel_rfl) (by kernel_rfl) (by kernel_rfl) (fun _ _ _ h => h) (Or.inl ⟨wanted_free rfl, fun w' hSw => ?_⟩) hHeld ?_
      · go_simp
      try simp only [Act.put, List.setIfInBounds_toArray, List.set_cons_zero, List.set_cons_succ]
      refine wpAnyH_take (i := 6) (oi := ⟨_, _, _, _, _, _⟩) (v := .pointer (some ⟨g, 0, none⟩)) rfl (by kernel_rfl) (by kernel_rfl) (by kernel_rfl) (fun _ _ _ h => h) (Or.inl ⟨wanted_free rfl, fun w' hSw => ?_⟩) hHeld ?_
      · go_simp
      try simp only [Act.put, List.setIfInBounds_toArray, List.set_cons_zero, List.set_cons_succ]
      refine wpAnyH_take (i := 7) (oi := ⟨_, _, _, _, _, _⟩) (v := .pointer (some ⟨g, 0, none⟩)) rfl (by kernel_rfl) (by kernel_rfl) (by kernel_rfl) (fun _ _ _ h => h) (Or.inl ⟨wanted_free rfl, fun w' hSw => ?_⟩) hHeld ?_
      · go_simp
      try simp only [Act.put, List.setIfInBounds_toArray, List.set_cons_zero, List.set_cons_succ]
      refine wpAnyH_take (i := 8) (oi := ⟨_, _, _, _, _, _⟩) (v := .pointer (some ⟨g, 0, none⟩)) rfl (by kernel_rfl) (by kernel_rfl) (by kernel_rfl) (fun _ _ _ h => h) (Or.inl ⟨wanted_free rfl, fun w' hSw => ?_⟩) hHeld ?_
      · go_simp
      try simp only [Act.put, List.setIfInBounds_toArray, List.set_cons_zero, List.set_cons_succ]
      refine wpAnyH_ready (rs := [1, 5]) (by kernel_rfl) (by simp) (AllReadyH.cons (o := ⟨_, _, _, _, _, _⟩) rfl (fun K hK => ?_) (AllReadyH.cons (o := ⟨_, _, _, _, _, _⟩) rfl (fun K hK => ?_) AllReadyH.nil))
      · as_aux_lemma =>
        rewrite [if_pos (wanted_free rfl)]
        with_reducible refine wp_load1 38 85 (.tmp 15) (by with_unfolding_all rfl) w2.heap.size 1 (.slice aa na ca) (by with_unfolding_all rfl) (Sta.c (i := 0) HS49 rfl rfl) Tryd.underlying38 ?_
        refine hK.out _ _ trivial (fun hHeld => ?_)
        clear hK K
        try simp only [Act.put, List.setIfInBounds_toArray, List.set_cons_zero, List.set_cons_succ]
        refine wpAnyH_ready (rs := [5]) (by kernel_rfl) (by simp) (AllReadyH.cons (o := ⟨_, _, _, _, _, _⟩) rfl (fun K hK => ?_) AllReadyH.nil)
        rewrite [if_pos (wanted_free rfl)]
        go_simp
        have n50_0 : RowV w49 g [.string t, .int .i64 (pa : Int)] := (Sta.r (i := 2) HS49 rfl :)
        (with_reducible refine (hC14 w49 pa x0 q1 n50_0 ht1).mono ?_)
        rintro r w50 ⟨rfl, hA50, hO50⟩
        have HS50 := Sta.put 2 HS49 rfl hA50 (by simp) hO50
        clear hA50 hO50
        go_wp2_with fail
        refine hK.out _ _ trivial (fun hHeld => ?_)
        clear hK K
        try simp only [Act.put, List.setIfInBounds_toArray, List.set_cons_zero, List.set_cons_succ]
        refine wpAnyH_ready (rs := [9]) (by kernel_rfl) (by simp) (AllReadyH.cons (o := ⟨_, _, _, _, _, _⟩) rfl (fun K hK => ?_) AllReadyH.nil)
        rewrite [if_pos (wanted_free rfl)]
        go_simp
        go_wp2_with fail
        have n51_0 : RowV w50 g [.string t, .int .i64 (q1 : Int)] := (Sta.r (i := 2) HS50 rfl :)
        refine (hC15 w50 q1 n51_0 ht2 hlq).mono ?_
        rintro r w51 ⟨rfl, hO51⟩
        exact ⟨rfl, ManT.no HF.out ((Sta.only HS50 hg).trans hO51)⟩
      · as_aux_lemma =>
        rewrite [if_pos (wanted_free rfl)]
        go_simp
        have n52_0 : RowV w49 g [.string t, .int .i64 (pa : Int)] := (Sta.r (i := 2) HS49 rfl :)
        (with_reducible refine (hC14 w49 pa x0 q1 n52_0 ht1).mono ?_)
        rintro r w52 ⟨rfl, hA52, hO52⟩
        have HS52 := Sta.put 2 HS49 rfl hA52 (by simp) hO52
        clear hA52 hO52
        go_wp2_with fail
        refine hK.out _ _ trivial (fun hHeld => ?_)
        clear hK K
        try simp only [Act.put, List.setIfInBounds_toArray, List.set_cons_zero, List.set_cons_succ]
        refine wpAnyH_ready (rs := [1, 9]) (by kernel_rfl) (by simp) (AllReadyH.cons (o := ⟨_, _, _, _, _, _⟩) rfl (fun K hK => ?_) (AllReadyH.cons (o := ⟨_, _, _, _, _, _⟩) rfl (fun K hK => ?_) AllReadyH.nil))
        · as_aux_lemma =>
          rewrite [if_pos (wanted_free rfl)]
          with_reducible refine wp_load1 38 85 (.tmp 15) (by with_unfolding_all rfl) w2.heap.size 1 (.slice aa na ca) (by with_unfolding_all rfl) (Sta.c (i := 0) HS52 rfl rfl) Tryd.underlying38 ?_
          refine hK.out _ _ trivial (fun hHeld => ?_)
          clear hK K
          try simp only [Act.put, List.setIfInBounds_toArray, List.set_cons_zero, List.set_cons_succ]
          refine wpAnyH_ready (rs := [9]) (by kernel_rfl) (by simp) (AllReadyH.cons (o := ⟨_, _, _, _, _, _⟩) rfl (fun K hK => ?_) AllReadyH.nil)
          rewrite [if_pos (wanted_free rfl)]
          go_simp
          go_wp2_with fail
          have n53_0 : RowV w52 g [.string t, .int .i64 (q1 : Int)] := (Sta.r (i := 2) HS52 rfl :)
          refine (hC15 w52 q1 n53_0 ht2 hlq).mono ?_
          rintro r w53 ⟨rfl, hO53⟩
          exact ⟨rfl, ManT.no HF.out ((Sta.only HS52 hg).trans hO53)⟩
        · as_aux_lemma =>
          rewrite [if_pos (wanted_free rfl)]
          go_simp
          go_wp2_with fail
          have n54_0 : RowV w52 g [.string t, .int .i64 (q1 : Int)] := (Sta.r (i := 2) HS52 rfl :)
          refine (hC15 w52 q1 n54_0 ht2 hlq).mono ?_
          rintro r w54 ⟨rfl, hO54⟩
          exact ⟨rfl, ManT.no HF.out ((Sta.only HS52 hg).trans hO54)⟩
    · as_aux_lemma =>
      have hlq := (bytesO_yes ht1).2.2
      have hlq2 := (numO_some ht2).2.1
      have HXw : Hid (LayV.w ⟨x0, x1⟩) := laysO_w hs' ht1 ht2
      have HRn : Hid (R = restLs t nm (la ++ [⟨x0, x1⟩]) j q2) := by show _ = _; rw [HRr.out]; exact restLs_step ht1 ht2
      go_wp2_with fail
      have HS55 := Sta.drew HS7
      refine wp_region_held_drew (S := fun w' => True) (by kernel_rfl) trivial (fun hHeld => ?_)
      generalize wl7.drew = w55 at *
      refine wpAnyH_take (i := 0) (oi := ⟨_, _, _, _, _, _⟩) (v := .pointer (some ⟨w2.heap.size, 1, none⟩)) rfl (by kernel_rfl) (by kernel_rfl) (by kernel_rfl) (fun _ _ _ h => h) (Or.inl ⟨wanted_free rfl, fun w' hSw => ?_⟩) hHeld ?_
      · go_simp
      try simp only [Act.put, List.setIfInBounds_toArray, List.set_cons_zero, List.set_cons_succ]
      refine wpAnyH_take (i := 2) (oi := ⟨_, _, _, _, _, _⟩) (v := .pointer (some ⟨g, 0, none⟩)) rfl (by kernel_rfl) (by kernel_rfl) (by kernel_rfl) (fun _ _ _ h => h) (Or.inl ⟨wanted_free rfl, fun w' hSw => ?_⟩) hHeld ?_
      · go_simp
      try simp only [Act.put, List.setIfInBounds_toArray, List.set_cons_zero, List.set_cons_succ]
      refine wpAnyH_take (i := 3) (oi := ⟨_, _, _, _, _, _⟩) (v := .pointer (some ⟨g, 0, none⟩)) rfl (by kernel_rfl) (by kernel_rfl) (by kernel_rfl) (fun _ _ _ h => h) (Or.inl ⟨wanted_free rfl, fun w' hSw => ?_⟩) hHeld ?_
      · go_simp
      try simp only [Act.put, List.setIfInBounds_toArray, List.set_cons_zero, List.set_cons_succ]
      refine wpAnyH_take (i := 4) (oi := ⟨_, _, _, _, _, _⟩) (v := .pointer (some ⟨g, 0, none⟩)) rfl (by kernel_rfl) (by kernel_rfl) (by kernel_rfl) (fun _ _ _ h => h) (Or.inl ⟨wanted_free rfl, fun w' hSw => ?_⟩) hHeld ?_
      · go_simp
      try simp only [Act.put, List.setIfInBounds_toArray, List.set_cons_zero, List.set_cons_succ]
      refine wpAnyH_take (i := 6) (oi := ⟨_, _, _, _, _, _⟩) (v := .pointer (some ⟨g, 0, none⟩)) rfl (by kernel_rfl) (by kernel_rfl) (by kernel_rfl) (fun _ _ _ h => h) (Or.inl ⟨wanted_free rfl, fun w' hSw => ?_⟩) hHeld ?_
      · go_simp
      try simp only [Act.put, List.setIfInBounds_toArray, List.set_cons_zero, List.set_cons_succ]
      refine wpAnyH_take (i := 7) (oi := ⟨_, _, _, _, _, _⟩) (v := .pointer (some ⟨g, 0, none⟩)) rfl (by kernel_rfl) (by kernel_rfl) (by kernel_rfl) (fun _ _ _ h => h) (Or.inl ⟨wanted_free rfl, fun w' hSw => ?_⟩) hHeld ?_
      · go_simp
      try simp only [Act.put, List.setIfInBounds_toArray, List.set_cons_zero, List.set_cons_succ]
      refine wpAnyH_take (i := 8) (oi := ⟨_, _, _, _, _, _⟩) (v := .pointer (some ⟨g, 0, none⟩)) rfl (by kernel_rfl) (by kernel_rfl) (by kernel_rfl) (fun _ _ _ h => h) (Or.inl ⟨wanted_free rfl, fun w' hSw => ?_⟩) hHeld ?_
      · go_simp
      try simp only [Act.put, List.setIfInBounds_toArray, List.set_cons_zero, List.set_cons_succ]
      refine wpAnyH_ready (rs := [1, 5]) (by kernel_rfl) (by simp) (AllReadyH.cons (o := ⟨_, _, _, _, _, _⟩) rfl (fun K hK => ?_) (AllReadyH.cons (o := ⟨_, _, _, _, _, _⟩) rfl (fun K hK => ?_) AllReadyH.nil))
      · as_aux_lemma =>
        rewrite [if_pos (wanted_free rfl)]
        with_reducible refine wp_load1 38 85 (.tmp 15) (by with_unfolding_all rfl) w2.heap.size 1 (.slice aa na ca) (by with_unfolding_all rfl) (Sta.c (i := 0) HS55 rfl rfl) Tryd.underlying38 ?_
        refine hK.out _ _ trivial (fun hHeld => ?_)
        clear hK K
        try simp only [Act.put, List.setIfInBounds_toArray, List.set_cons_zero, List.set_cons_succ]
        refine wpAnyH_ready (rs := [5]) (by kernel_rfl) (by simp) (AllReadyH.cons (o := ⟨_, _, _, _, _, _⟩) rfl (fun K hK => ?_) AllReadyH.nil)
        rewrite [if_pos (wanted_free rfl)]
        go_simp
        have n56_0 : RowV w55 g [.string t, .int .i64 (pa : Int)] := (Sta.r (i := 2) HS55 rfl :)
        (with_reducible refine (hC14 w55 pa x0 q1 n56_0 ht1).mono ?_)
        rintro r w56 ⟨rfl, hA56, hO56⟩
        have HS56 := Sta.put 2 HS55 rfl hA56 (by simp) hO56
        clear hA56 hO56
        go_wp2_with fail
        refine hK.out _ _ trivial (fun hHeld => ?_)
        clear hK K
        try simp only [Act.put, List.setIfInBounds_toArray, List.set_cons_zero, List.set_cons_succ]
        refine wpAnyH_ready (rs := [9]) (by kernel_rfl) (by simp) (AllReadyH.cons (o := ⟨_, _, _, _, _, _⟩) rfl (fun K hK => ?_) AllReadyH.nil)
        rewrite [if_pos (wanted_free rfl)]
        go_simp
        have n57_0 : RowV w56 g [.string t, .int .i64 (q1 : Int)] := (Sta.r (i := 2) HS56 rfl :)
        (with_reducible refine (hC16 w56 q1 x1 q2 n57_0 ht2 hlq).mono ?_)
        rintro r w57 ⟨rfl, hA57, hO57⟩
        have HS57 := Sta.put 2 HS56 rfl hA57 (by simp) hO57
        clear hA57 hO57
        go_wp2_with fail
        refine hK.out _ _ trivial (fun hHeld => ?_)
        clear hK K
        try simp only [Act.put, List.setIfInBounds_toArray, List.set_cons_zero, List.set_cons_succ]
        refine wpAnyH_take (i := 10) (oi := ⟨_, _, _, _, _, _⟩) (v := .agg #[.string x0, .int .i64 x1]) rfl (by kernel_rfl) (by kernel_rfl) (by kernel_rfl) (fun _ _ _ h => h) (Or.inl ⟨wanted_free rfl, fun w' hSw => ?_⟩) hHeld ?_
        · go_simp
        try simp only [Act.put, List.setIfInBounds_toArray, List.set_cons_zero, List.set_cons_succ]
        refine wpAnyH_ready (rs := [11]) (by kernel_rfl) (by simp) (AllReadyH.cons (o := ⟨_, _, _, _, _, _⟩) rfl (fun K hK => ?_) AllReadyH.nil)
        rewrite [if_pos (wanted_free rfl)]
        with_reducible refine wp_buildLay (.tmp 25) (by with_unfolding_all rfl) x0 x1 (by with_unfolding_all rfl) ?_
        intro w58 hA58 hB58
        have HS58 := Sta.new HS57 hA58 hB58 (by simp [layv])
        clear hA58 hB58
        refine hK.out _ _ trivial (fun hHeld => ?_)
        clear hK K
        try simp only [Act.put, List.setIfInBounds_toArray, List.set_cons_zero, List.set_cons_succ]
        refine wpAnyH_ready (rs := [12]) (by kernel_rfl) (by simp) (AllReadyH.cons (o := ⟨_, _, _, _, _, _⟩) rfl (fun K hK => ?_) AllReadyH.nil)
        rewrite [if_pos (wanted_free rfl)]
        with_reducible refine wp_appendLay (W := w58) (.tmp 16) (.tmp 26) (by with_unfolding_all rfl) w.heap.size (.slice aa na ca) la ⟨x0, x1⟩ (by with_unfolding_all rfl) (Sta.t (i := 0) HS58 rfl) w57.heap.size (by with_unfolding_all rfl) (Sta.r (i := 0) HS58 (by with_unfolding_all rfl)) (by have := HLa.out; omega) (Sta.size HS58) ?_
        intro v59 w59 hO59 hG59 hb59
        obtain ⟨a59, m59, c59, hm59, rfl⟩ := LayO.form hO59
        have HS59 := Sta.app 0 HS58 rfl (Nat.le_refl _) hO59 hG59 hb59
        have Hm59 := hidP hm59
        clear hO59 hG59 hb59 hm59
        refine hK.out _ _ trivial (fun hHeld => ?_)
        clear hK K
        try simp only [Act.put, List.setIfInBounds_toArray, List.set_cons_zero, List.set_cons_succ]
        refine wpAnyH_take (i := 13) (oi := ⟨_, _, _, _, _, _⟩) (v := .pointer (some ⟨w2.heap.size, 1, none⟩)) rfl (by kernel_rfl) (by kernel_rfl) (by kernel_rfl) (fun _ _ _ h => h) (Or.inl ⟨wanted_free rfl, fun w' hSw => ?_⟩) hHeld ?_
        · go_simp
        try simp only [Act.put, List.setIfInBounds_toArray, List.set_cons_zero, List.set_cons_succ]
        refine wpAnyH_ready (rs := [14]) (by kernel_rfl) (by simp) (AllReadyH.cons (o := ⟨_, _, _, _, _, _⟩) rfl (fun K hK => ?_) AllReadyH.nil)
        rewrite [if_pos (wanted_free rfl)]
        with_reducible refine wp_cellO 38 (.tmp 28) (.tmp 27) (by with_unfolding_all rfl) w2.heap.size 1 [.string nm, .slice aa na ca, .slice none 0 0] [.string nm, .slice a59 m59 c59, .slice none 0 0] (.slice a59 m59 c59) (by with_unfolding_all rfl) (by with_unfolding_all rfl) (by with_unfolding_all rfl) Tryd.s1_slimplLayer (Sta.r (i := 1) HS59 (by with_unfolding_all rfl)) (by simp) (by with_unfolding_all rfl) ?_
        intro w60 hA60 hO60
        have HS60 := Sta.put 1 HS59 rfl hA60 (by simp) hO60
        clear hA60 hO60
        refine hK.out _ _ trivial (fun hHeld => ?_)
        clear hK K
        try simp only [Act.put]
        refine wpAnyH_done (by kernel_rfl) ?_ _
        clear hHeld
        go_wp2_with fail
        go_roundw
        case rel => exact ⟨k + 1, q2, a59, m59, c59, (la ++ ([⟨x0, x1⟩] : List LayV)), by go_num, hlt7, hlq2, by show _ = _; rw [List.length_append, HLa.out]; rfl, fun x hx => by rcases List.mem_append.1 hx with hx | hx; exact HWa.out x hx; cases List.mem_singleton.1 hx; exact HXw.out, by show _ = _; rw [hj2]; exact HRn.out, Sta.drop 1 0 HS60⟩
        case measure => simp [intOf]; omega
      · as_aux_lemma =>
        rewrite [if_pos (wanted_free rfl)]
        go_simp
        have n61_0 : RowV w55 g [.string t, .int .i64 (pa : Int)] := (Sta.r (i := 2) HS55 rfl :)
        (with_reducible refine (hC14 w55 pa x0 q1 n61_0 ht1).mono ?_)
        rintro r w61 ⟨rfl, hA61, hO61⟩
        have HS61 := Sta.put 2 HS55 rfl hA61 (by simp) hO61
        clear hA61 hO61
        go_wp2_with fail
        refine hK.out _ _ trivial (fun hHeld => ?_)
        clear hK K
        try simp only [Act.put, List.setIfInBounds_toArray, List.set_cons_zero, List.set_cons_succ]
        refine wpAnyH_ready (rs := [1, 9]) (by kernel_rfl) (by simp) (AllReadyH.cons (o := ⟨_, _, _, _, _, _⟩) rfl (fun K hK => ?_) (AllReadyH.cons (o := ⟨_, _, _, _, _, _⟩) rfl (fun K hK => ?_) AllReadyH.nil))
        · as_aux_lemma =>
          rewrite [if_pos (wanted_free rfl)]
          with_reducible refine wp_load1 38 85 (.tmp 15) (by with_unfolding_all rfl) w2.heap.size 1 (.slice aa na ca) (by with_unfolding_all rfl) (Sta.c (i := 0) HS61 rfl rfl) Tryd.underlying38 ?_
          refine hK.out _ _ trivial (fun hHeld => ?_)
          clear hK K
          try simp only [Act.put, List.setIfInBounds_toArray, List.set_cons_zero, List.set_cons_succ]
          refine wpAnyH_ready (rs := [9]) (by kernel_rfl) (by simp) (AllReadyH.cons (o := ⟨_, _, _, _, _, _⟩) rfl (fun K hK => ?_) AllReadyH.nil)
          rewrite [if_pos (wanted_free rfl)]
          go_simp
          have n62_0 : RowV w61 g [.string t, .int .i64 (q1 : Int)] := (Sta.r (i := 2) HS61 rfl :)
          (with_reducible refine (hC16 w61 q1 x1 q2 n62_0 ht2 hlq).mono ?_)
          rintro r w62 ⟨rfl, hA62, hO62⟩
          have HS62 := Sta.put 2 HS61 rfl hA62 (by simp) hO62
          clear hA62 hO62
          go_wp2_with fail
          refine hK.out _ _ trivial (fun hHeld => ?_)
          clear hK K
          try simp only [Act.put, List.setIfInBounds_toArray, List.set_cons_zero, List.set_cons_succ]
          refine wpAnyH_take (i := 10) (oi := ⟨_, _, _, _, _, _⟩) (v := .agg #[.string x0, .int .i64 x1]) rfl (by kernel_rfl) (by kernel_rfl) (by kernel_rfl) (fun _ _ _ h => h) (Or.inl ⟨wanted_free rfl, fun w' hSw => ?_⟩) hHeld ?_
          · go_simp
          try simp only [Act.put, List.setIfInBounds_toArray, List.set_cons_zero, List.set_cons_succ]
          refine wpAnyH_ready (rs := [11]) (by kernel_rfl) (by simp) (AllReadyH.cons (o := ⟨_, _, _, _, _, _⟩) rfl (fun K hK => ?_) AllReadyH.nil)
          rewrite [if_pos (wanted_free rfl)]
          with_reducible refine wp_buildLay (.tmp 25) (by with_unfolding_all rfl) x0 x1 (by with_unfolding_all rfl) ?_
          intro w63 hA63 hB63
          have HS63 := Sta.new HS62 hA63 hB63 (by simp [layv])
          clear hA63 hB63
          refine hK.out _ _ trivial (fun hHeld => ?_)
          clear hK K
          try simp only [Act.put, List.setIfInBounds_toArray, List.set_cons_zero, List.set_cons_succ]
          refine wpAnyH_ready (rs := [12]) (by kernel_rfl) (by simp) (AllReadyH.cons (o := ⟨_, _, _, _, _, _⟩) rfl (fun K hK => ?_) AllReadyH.nil)
          rewrite [if_pos (wanted_free rfl)]
          with_reducible refine wp_appendLay (W := w63) (.tmp 16) (.tmp 26) (by with_unfolding_all rfl) w.heap.size (.slice aa na ca) la ⟨x0, x1⟩ (by with_unfolding_all rfl) (Sta.t (i := 0) HS63 rfl) w62.heap.size (by with_unfolding_all rfl) (Sta.r (i := 0) HS63 (by with_unfolding_all rfl)) (by have := HLa.out; omega) (Sta.size HS63) ?_
          intro v64 w64 hO64 hG64 hb64
          obtain ⟨a64, m64, c64, hm64, rfl⟩ := LayO.form hO64
          have HS64 := Sta.app 0 HS63 rfl (Nat.le_refl _) hO64 hG64 hb64
          have Hm64 := hidP hm64
          clear hO64 hG64 hb64 hm64
          refine hK.out _ _ trivial (fun hHeld => ?_)
          clear hK K
          try simp only [Act.put, List.setIfInBounds_toArray, List.set_cons_zero, List.set_cons_succ]
          refine wpAnyH_take (i := 13) (oi := ⟨_, _, _, _, _, _⟩) (v := .pointer (some ⟨w2.heap.size, 1, none⟩)) rfl (by kernel_rfl) (by kernel_rfl) (by kernel_rfl) (fun _ _ _ h => h) (Or.inl ⟨wanted_free rfl, fun w' hSw => ?_⟩) hHeld ?_
          · go_simp
          try simp only [Act.put, List.setIfInBounds_toArray, List.set_cons_zero, List.set_cons_succ]
          refine wpAnyH_ready (rs := [14]) (by kernel_rfl) (by simp) (AllReadyH.cons (o := ⟨_, _, _, _, _, _⟩) rfl (fun K hK => ?_) AllReadyH.nil)
          rewrite [if_pos (wanted_free rfl)]
          with_reducible refine wp_cellO 38 (.tmp 28) (.tmp 27) (by with_unfolding_all rfl) w2.heap.size 1 [.string nm, .slice aa na ca, .slice none 0 0] [.string nm, .slice a64 m64 c64, .slice none 0 0] (.slice a64 m64 c64) (by with_unfolding_all rfl) (by with_unfolding_all rfl) (by with_unfolding_all rfl) Tryd.s1_slimplLayer (Sta.r (i := 1) HS64 (by with_unfolding_all rfl)) (by simp) (by with_unfolding_all rfl) ?_
          intro w65 hA65 hO65
          have HS65 := Sta.put 1 HS64 rfl hA65 (by simp) hO65
          clear hA65 hO65
          refine hK.out _ _ trivial (fun hHeld => ?_)
          clear hK K
          try simp only [Act.put]
          refine wpAnyH_done (by kernel_rfl) ?_ _
          clear hHeld
          go_wp2_with fail
          go_roundw
          case rel => exact ⟨k + 1, q2, a64, m64, c64, (la ++ ([⟨x0, x1⟩] : List LayV)), by go_num, hlt7, hlq2, by show _ = _; rw [List.length_append, HLa.out]; rfl, fun x hx => by rcases List.mem_append.1 hx with hx | hx; exact HWa.out x hx; cases List.mem_singleton.1 hx; exact HXw.out, by show _ = _; rw [hj2]; exact HRn.out, Sta.drop 1 0 HS65⟩
          case measure => simp [intOf]; omega
        · as_aux_lemma =>
          rewrite [if_pos (wanted_free rfl)]
          go_simp
          have n66_0 : RowV w61 g [.string t, .int .i64 (q1 : Int)] := (Sta.r (i := 2) HS61 rfl :)
          (with_reducible refine (hC16 w61 q1 x1 q2 n66_0 ht2 hlq).mono ?_)
          rintro r w66 ⟨rfl, hA66, hO66⟩
          have HS66 := Sta.put 2 HS61 rfl hA66 (by simp) hO66
          clear hA66 hO66
          go_wp2_with fail
          refine hK.out _ _ trivial (fun hHeld => ?_)
          clear hK K
          try simp only [Act.put, List.setIfInBounds_toArray, List.set_cons_zero, List.set_cons_succ]
          refine wpAnyH_take (i := 10) (oi := ⟨_, _, _, _, _, _⟩) (v := .agg #[.string x0, .int .i64 x1]) rfl (by kernel_rfl) (by kernel_rfl) (by kernel_rfl) (fun _ _ _ h => h) (Or.inl ⟨wanted_free rfl, fun w' hSw => ?_⟩) hHeld ?_
          · go_simp
          try simp only [Act.put, List.setIfInBounds_toArray, List.set_cons_zero, List.set_cons_succ]
          refine wpAnyH_ready (rs := [1, 11]) (by kernel_rfl) (by simp) (AllReadyH.cons (o := ⟨_, _, _, _, _, _⟩) rfl (fun K hK => ?_) (AllReadyH.cons (o := ⟨_, _, _, _, _, _⟩) rfl (fun K hK => ?_) AllReadyH.nil))
          · as_aux_lemma =>
            rewrite [if_pos (wanted_free rfl)]
            with_reducible refine wp_load1 38 85 (.tmp 15) (by with_unfolding_all rfl) w2.heap.size 1 (.slice aa na ca) (by with_unfolding_all rfl) (Sta.c (i := 0) HS66 rfl rfl) Tryd.underlying38 ?_
            refine hK.out _ _ trivial (fun hHeld => ?_)
            clear hK K
            try simp only [Act.put, List.setIfInBounds_toArray, List.set_cons_zero, List.set_cons_succ]
            refine wpAnyH_ready (rs := [11]) (by kernel_rfl) (by simp) (AllReadyH.cons (o := ⟨_, _, _, _, _, _⟩) rfl (fun K hK => ?_) AllReadyH.nil)
            rewrite [if_pos (wanted_free rfl)]
            with_reducible refine wp_buildLay (.tmp 25) (by with_unfolding_all rfl) x0 x1 (by with_unfolding_all rfl) ?_
            intro w67 hA67 hB67
            have HS67 := Sta.new HS66 hA67 hB67 (by simp [layv])
            clear hA67 hB67
            refine hK.out _ _ trivial (fun hHeld => ?_)
            clear hK K
            try simp only [Act.put, List.setIfInBounds_toArray, List.set_cons_zero, List.set_cons_succ]
            refine wpAnyH_ready (rs := [12]) (by kernel_rfl) (by simp) (AllReadyH.cons (o := ⟨_, _, _, _, _, _⟩) rfl (fun K hK => ?_) AllReadyH.nil)
            rewrite [if_pos (wanted_free rfl)]
            with_reducible refine wp_appendLay (W := w67) (.tmp 16) (.tmp 26) (by with_unfolding_all rfl) w.heap.size (.slice aa na ca) la ⟨x0, x1⟩ (by with_unfolding_all rfl) (Sta.t (i := 0) HS67 rfl) w66.heap.size (by with_unfolding_all rfl) (Sta.r (i := 0) HS67 (by with_unfolding_all rfl)) (by have := HLa.out; omega) (Sta.size HS67) ?_
            intro v68 w68 hO68 hG68 hb68
            obtain ⟨a68, m68, c68, hm68, rfl⟩ := LayO.form hO68
            have HS68 := Sta.app 0 HS67 rfl (Nat.le_refl _) hO68 hG68 hb68
            have Hm68 := hidP hm68
            clear hO68 hG68 hb68 hm68
            refine hK.out _ _ trivial (fun hHeld => ?_)
            clear hK K
            try simp only [Act.put, List.setIfInBounds_toArray, List.set_cons_zero, List.set_cons_succ]
            refine wpAnyH_take (i := 13) (oi := ⟨_, _, _, _, _, _⟩) (v := .pointer (some ⟨w2.heap.size, 1, none⟩)) rfl (by kernel_rfl) (by kernel_rfl) (by kernel_rfl) (fun _ _ _ h => h) (Or.inl ⟨wanted_free rfl, fun w' hSw => ?_⟩) hHeld ?_
            · go_simp
            try simp only [Act.put, List.setIfInBounds_toArray, List.set_cons_zero, List.set_cons_succ]
            refine wpAnyH_ready (rs := [14]) (by kernel_rfl) (by simp) (AllReadyH.cons (o := ⟨_, _, _, _, _, _⟩) rfl (fun K hK => ?_) AllReadyH.nil)
            rewrite [if_pos (wanted_free rfl)]
            with_reducible refine wp_cellO 38 (.tmp 28) (.tmp 27) (by with_unfolding_all rfl) w2.heap.size 1 [.string nm, .slice aa na ca, .slice none 0 0] [.string nm, .slice a68 m68 c68, .slice none 0 0] (.slice a68 m68 c68) (by with_unfolding_all rfl) (by with_unfolding_all rfl) (by with_unfolding_all rfl) Tryd.s1_slimplLayer (Sta.r (i := 1) HS68 (by with_unfolding_all rfl)) (by simp) (by with_unfolding_all rfl) ?_
            intro w69 hA69 hO69
            have HS69 := Sta.put 1 HS68 rfl hA69 (by simp) hO69
            clear hA69 hO69
            refine hK.out _ _ trivial (fun hHeld => ?_)
            clear hK K
            try simp only [Act.put]
            refine wpAnyH_done (by kernel_rfl) ?_ _
            clear hHeld
            go_wp2_with fail
            go_roundw
            case rel => exact ⟨k + 1, q2, a68, m68, c68, (la ++ ([⟨x0, x1⟩] : List LayV)), by go_num, hlt7, hlq2, by show _ = _; rw [List.length_append, HLa.out]; rfl, fun x hx => by rcases List.mem_append.1 hx with hx | hx; exact HWa.out x hx; cases List.mem_singleton.1 hx; exact HXw.out, by show _ = _; rw [hj2]; exact HRn.out, Sta.drop 1 0 HS69⟩
            case measure => simp [intOf]; omega
          · as_aux_lemma =>
            rewrite [if_pos (wanted_free rfl)]
            with_reducible refine wp_buildLay (.tmp 25) (by with_unfolding_all rfl) x0 x1 (by with_unfolding_all rfl) ?_
            intro w70 hA70 hB70
            have HS70 := Sta.new HS66 hA70 hB70 (by simp [layv])
            clear hA70 hB70
            refine hK.out _ _ trivial (fun hHeld => ?_)
            clear hK K
            try simp only [Act.put, List.setIfInBounds_toArray, List.set_cons_zero, List.set_cons_succ]
            refine wpAnyH_ready (rs := [1]) (by kernel_rfl) (by simp) (AllReadyH.cons (o := ⟨_, _, _, _, _, _⟩) rfl (fun K hK => ?_) AllReadyH.nil)
            rewrite [if_pos (wanted_free rfl)]
            with_reducible refine wp_load1 38 85 (.tmp 15) (by with_unfolding_all rfl) w2.heap.size 1 (.slice aa na ca) (by with_unfolding_all rfl) (Sta.c (i := 1) HS70 rfl rfl) Tryd.underlying38 ?_
            refine hK.out _ _ trivial (fun hHeld => ?_)
            clear hK K
            try simp only [Act.put, List.setIfInBounds_toArray, List.set_cons_zero, List.set_cons_succ]
            refine wpAnyH_ready (rs := [12]) (by kernel_rfl) (by simp) (AllReadyH.cons (o := ⟨_, _, _, _, _, _⟩) rfl (fun K hK => ?_) AllReadyH.nil)
            rewrite [if_pos (wanted_free rfl)]
            with_reducible refine wp_appendLay (W := w70) (.tmp 16) (.tmp 26) (by with_unfolding_all rfl) w.heap.size (.slice aa na ca) la ⟨x0, x1⟩ (by with_unfolding_all rfl) (Sta.t (i := 0) HS70 rfl) w66.heap.size (by with_unfolding_all rfl) (Sta.r (i := 0) HS70 (by with_unfolding_all rfl)) (by have := HLa.out; omega) (Sta.size HS70) ?_
            intro v71 w71 hO71 hG71 hb71
            obtain ⟨a71, m71, c71, hm71, rfl⟩ := LayO.form hO71
            have HS71 := Sta.app 0 HS70 rfl (Nat.le_refl _) hO71 hG71 hb71
            have Hm71 := hidP hm71
            clear hO71 hG71 hb71 hm71
            refine hK.out _ _ trivial (fun hHeld => ?_)
            clear hK K
            try simp only [Act.put, List.setIfInBounds_toArray, List.set_cons_zero, List.set_cons_succ]
            refine wpAnyH_take (i := 13) (oi := ⟨_, _, _, _, _, _⟩) (v := .pointer (some ⟨w2.heap.size, 1, none⟩)) rfl (by kernel_rfl) (by kernel_rfl) (by kernel_rfl) (fun _ _ _ h => h) (Or.inl ⟨wanted_free rfl, fun w' hSw => ?_⟩) hHeld ?_
            · go_simp
            try simp only [Act.put, List.setIfInBounds_toArray, List.set_cons_zero, List.set_cons_succ]
            refine wpAnyH_ready (rs := [14]) (by kernel_rfl) (by simp) (AllReadyH.cons (o := ⟨_, _, _, _, _, _⟩) rfl (fun K hK => ?_) AllReadyH.nil)
            rewrite [if_pos (wanted_free rfl)]
            with_reducible refine wp_cellO 38 (.tmp 28) (.tmp 27) (by with_unfolding_all rfl) w2.heap.size 1 [.string nm, .slice aa na ca, .slice none 0 0] [.string nm, .slice a71 m71 c71, .slice none 0 0] (.slice a71 m71 c71) (by with_unfolding_all rfl) (by with_unfolding_all rfl) (by with_unfolding_all rfl) Tryd.s1_slimplLayer (Sta.r (i := 1) HS71 (by with_unfolding_all rfl)) (by simp) (by with_unfolding_all rfl) ?_
            intro w72 hA72 hO72
            have HS72 := Sta.put 1 HS71 rfl hA72 (by simp) hO72
            clear hA72 hO72
            refine hK.out _ _ trivial (fun hHeld => ?_)
            clear hK K
            try simp only [Act.put]
            refine wpAnyH_done (by kernel_rfl) ?_ _
            clear hHeld
            go_wp2_with fail
            go_roundw
            case rel => exact ⟨k + 1, q2, a71, m71, c71, (la ++ ([⟨x0, x1⟩] : List LayV)), by go_num, hlt7, hlq2, by show _ = _; rw [List.length_append, HLa.out]; rfl, fun x hx => by rcases List.mem_append.1 hx with hx | hx; exact HWa.out x hx; cases List.mem_singleton.1 hx; exact HXw.out, by show _ = _; rw [hj2]; exact HRn.out, Sta.drop 1 0 HS72⟩
            case measure => simp [intOf]; omega
end Go.Proofs.YtchfpiadfmnphaaDoor
