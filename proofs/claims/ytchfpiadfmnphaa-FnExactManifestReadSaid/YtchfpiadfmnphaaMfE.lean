/- ManifestRead of the program: what it answers, whatever the text. -/
import Derived.Test.YtchfpiadfmnphaaJn3
import Derived.Test.YtchfpiadfmnphaaMfD
import Derived.Test.YtchfpiadfmnphaaRwM
namespace Go.Proofs.Ytchfpiadfmnphaa
open Go.RowKit
set_option linter.unusedVariables false

theorem mdI (g p : Nat) (t : ByteArray) (w : World) (hs : t.size ≤ maxLen) (hp : p ≤ t.size) (h : RowV w g (cuv t p)) :
    Calls Try.prog 57 #[.pointer (some ⟨g, 0, none⟩)] w (ManT t g (manO t p) w) := by
  cases h1 : textO t p with
  | none => exact mdN0 g p t _ w hs hp (by show _ = _; unfold manO; rw [h1]) h1 h
  | some y1 =>
  obtain ⟨nm, b1⟩ := y1
  have l1 := (textO_some h1).2.1
  cases h2 : countO t b1 10 with
  | none => exact mdN1 g p t _ nm b1 w hs hp (by show _ = _; unfold manO; rw [h1]; simp only; rw [h2]) h1 l1 h2 h
  | some y2 =>
  obtain ⟨k, b2⟩ := y2
  exact mdY g p t _ nm b1 k b2 w hs hp (by show _ = _; unfold manO; rw [h1]; simp only; rw [h2]) h1 l1 h2 (countO_le h2).2 (countO_le h2).1 h
def ManB (a1 a2 : Option Addr) (lo hi : Nat) : Prop := (∀ ad, a1 = some ad → lo ≤ ad.block ∧ ad.block < hi) ∧ (∀ ad, a2 = some ad → lo ≤ ad.block ∧ ad.block < hi) ∧ (∀ x y, a1 = some x → a2 = some y → x.block ≠ y.block)
theorem ManB.mono {a1 a2 : Option Addr} {a b c d : Nat} (h : ManB a1 a2 a b) (h1 : c ≤ a) (h2 : ∀ k, a ≤ k → k < b → k < d) : ManB a1 a2 c d := ⟨fun ad e => ⟨Nat.le_trans h1 (h.1 ad e).1, h2 _ (h.1 ad e).1 (h.1 ad e).2⟩, fun ad e => ⟨Nat.le_trans h1 (h.2.1 ad e).1, h2 _ (h.2.1 ad e).1 (h.2.1 ad e).2⟩, h.2.2⟩
theorem ManB.nil (a b : Nat) : ManB none none a b := ⟨fun _ e => (by cases e), fun _ e => (by cases e), fun _ _ e => (by cases e)⟩
theorem rmAll (t : ByteArray) (w : World) (hs : t.size ≤ maxLen) :
    Calls Try.prog 56 #[.string t, .string ⟨#[73]⟩, .func (.func 57) #[] #[]] w fun e w' => ∃ (nm : ByteArray) (ls : List LayV) (bs : List LabV) (a1 : Option Addr) (n1 c1 : Nat) (a2 : Option Addr) (n2 c2 : Nat) (c : Int), e = .returned (.tuple #[.agg #[.string nm, .slice a1 n1 c1, .slice a2 n2 c2], .int .i64 c]) ∧ MnAns t nm ls bs c ∧ (n1 = ls.length ∧ n2 = bs.length) ∧ ManB a1 a2 w.heap.size w'.heap.size ∧ Made w w' (fun w2 => VR w2 a1 (layL ls).flatten ∧ VR w2 a2 (labL bs).flatten) ∧ Below w.heap.size w w' := by
  have nil : ∀ w', Made w w' (fun w2 => VR w2 none (layL []).flatten ∧ VR w2 none (labL []).flatten) := fun w' w2 _ => ⟨fun h => absurd rfl h, fun h => absurd rfl h⟩
  by_cases hbig : 20000 < t.size
  · refine (rmBig t _ _ w hs hbig).mono ?_
    rintro r w' ⟨rfl, hB⟩
    exact ⟨⟨#[]⟩, [], [], none, 0, 0, none, 0, 0, 2, rfl, Or.inl ⟨hbig, rfl, rfl, rfl, rfl⟩, ⟨rfl, rfl⟩, ManB.nil _ _, nil w', hB⟩
  have hs2 : t.size ≤ 20000 := by omega
  have bad : (¬ ∃ nm ls bs, ManOkT t nm ls bs) → Calls Try.prog 56 #[.string t, .string ⟨#[73]⟩, .func (.func 57) #[] #[]] w (fun e w' => e = .returned (.tuple #[.agg #[.string ⟨#[]⟩, .slice none 0 0, .slice none 0 0], .int .i64 3]) ∧ Below w.heap.size w w') → Calls Try.prog 56 #[.string t, .string ⟨#[73]⟩, .func (.func 57) #[] #[]] w (fun e w' => ∃ (nm : ByteArray) (ls : List LayV) (bs : List LabV) (a1 : Option Addr) (n1 c1 : Nat) (a2 : Option Addr) (n2 c2 : Nat) (c : Int), e = .returned (.tuple #[.agg #[.string nm, .slice a1 n1 c1, .slice a2 n2 c2], .int .i64 c]) ∧ MnAns t nm ls bs c ∧ (n1 = ls.length ∧ n2 = bs.length) ∧ ManB a1 a2 w.heap.size w'.heap.size ∧ Made w w' (fun w2 => VR w2 a1 (layL ls).flatten ∧ VR w2 a2 (labL bs).flatten) ∧ Below w.heap.size w w') := fun hn hc => hc.mono (by
    rintro r w' ⟨rfl, hB⟩
    exact ⟨⟨#[]⟩, [], [], none, 0, 0, none, 0, 0, 3, rfl, Or.inr (Or.inr ⟨hs2, hn, rfl, rfl, rfl, rfl⟩), ⟨rfl, rfl⟩, ManB.nil _ _, nil w', hB⟩)
  by_cases hf : FirstB t 73
  case neg =>
    refine bad ?_ (rmPassNo t _ w hs2 (fun g w0 h0 => passNo g t 73 w0 hs hf h0))
    rintro ⟨_, _, _, k1, _⟩
    exact hf k1
  have hP : ∀ g w0, RowV w0 g (cuv t 0) → Calls Try.prog 107 #[.pointer (some ⟨g, 0, none⟩), .string ⟨#[73]⟩] w0 fun e w' => e = .returned (.tuple #[]) ∧ RowV w' g (cuv t 1) ∧ Only g w0 w' := fun g w0 h0 => passYes g t 73 w0 hs hf h0
  cases ho : manO t 1 with
  | none =>
    refine bad ?_ (rmReadNo t _ w hs2 hP (fun g w0 h0 => ?_))
    · rintro ⟨_, _, _, _, q, k1, _⟩
      rw [ho] at k1; cases k1
    · refine (mdI g 1 t w0 hs hf.1 h0).mono ?_
      rintro r w' (⟨nm, ls, bs, q, L, e1, _⟩ | ⟨_, e2, e3⟩)
      · rw [ho] at e1; cases e1
      · exact ⟨e2, e3⟩
  | some y =>
  obtain ⟨nm, ls, bs, q⟩ := y
  have hY : ∀ g w0, RowV w0 g (cuv t 1) → Calls Try.prog 57 #[.pointer (some ⟨g, 0, none⟩)] w0 fun r w' => ∃ L, r = .returned (.agg L.toArray) ∧ L.length = 3 ∧ L.all Value.oneCell' = true ∧ ManF L w0.heap.size w'.heap.size ∧ RowV w' g (cuv t q) ∧ Only g w0 w' ∧ Made w0 w' (ManQ nm ls bs L) := fun g w0 h0 => by
    refine (mdI g 1 t w0 hs hf.1 h0).mono ?_
    rintro r w' (⟨nm', ls', bs', q', L, e1, e2, e3, e4, e5, e6, e7, e8, e9, e10⟩ | ⟨e1, _⟩)
    · rw [ho] at e1
      injection e1 with e1
      injection e1 with f1 e1
      injection e1 with f2 e1
      injection e1 with f3 f4
      subst f1 f2 f3 f4
      exact ⟨L, e2, e3, e4, e5, e8, e9, e10⟩
    · rw [ho] at e1; cases e1
  by_cases hq : q = t.size
  · refine (rmYes t _ w hs2 hP (ManQ nm ls bs) ManF (fun L a b c d h h1 h2 => h.mono h1 h2) q hY hq).mono ?_
    rintro r w' ⟨L, rfl, h1, h2, ⟨nm', a1, n1, c1, a2, n2, c2, rfl, f1, f2, f3⟩, hM, hB⟩
    obtain ⟨b1, d1, b2, d2, e, _⟩ := hM.now
    injection e with e0 e
    injection e with e1 e
    injection e with e2 e
    injection e0 with e0
    injection e1 with g1 g2 g3
    injection e2 with g4 g5 g6
    subst e0 g2 g5
    refine ⟨nm', ls, bs, a1, _, c1, a2, _, c2, 0, rfl, Or.inr (Or.inl ⟨hs2, ⟨hf, q, ho, hq⟩, rfl⟩), ⟨rfl, rfl⟩, ⟨f1, f2, f3⟩, hM.imp fun w2 h2 => ?_, hB⟩
    obtain ⟨b1, d1, b2, d2, e, v1, v2⟩ := h2
    injection e with e0 e
    injection e with e1 e
    injection e with e2 e
    injection e1 with g1 g2 g3
    injection e2 with g4 g5 g6
    subst g1 g4
    exact ⟨v1, v2⟩
  · refine bad ?_ (rmEndNo t _ w hs2 hP (ManQ nm ls bs) ManF (fun L a b c d h h1 h2 => h.mono h1 h2) q hY (manO_le ho).1 hq)
    rintro ⟨_, _, _, _, q', k1, k2⟩
    rw [ho] at k1
    injection k1 with k1
    injection k1 with _ k1
    injection k1 with _ k1
    injection k1 with _ f3
    subst f3
    exact hq k2
set_option maxRecDepth 100000 in
set_option maxHeartbeats 4000000 in
theorem implManRd (t : ByteArray) (w : World) (hs : t.size ≤ maxLen) :
    Calls Try.prog 18 #[.string t] w fun r w' => ∃ (nm : ByteArray) (ls : List LayV) (bs : List LabV) (a1 : Option Addr) (n1 c1 : Nat) (a2 : Option Addr) (n2 c2 : Nat) (c : Int), r = .returned (.agg #[.string nm, .slice a1 n1 c1, .slice a2 n2 c2, .int .i64 c]) ∧ MnAns t nm ls bs c ∧ (n1 = ls.length ∧ n2 = bs.length) ∧ ManB a1 a2 w.heap.size w'.heap.size ∧ Made w w' (fun w2 => VR w2 a1 (layL ls).flatten ∧ VR w2 a2 (labL bs).flatten) ∧ Below w.heap.size w w' := by
  have hC1 : ∀ w0, Calls Try.prog 56 #[.string t, .string ⟨#[73]⟩, .func (.func 57) #[] #[]] w0 fun r w' => ∃ (nm : ByteArray) (ls : List LayV) (bs : List LabV) (a1 : Option Addr) (y1 : Nat) (c1 : Nat) (a2 : Option Addr) (y2 : Nat) (c2 : Nat) (c : Int), r = .returned (.tuple #[.agg #[.string nm, .slice a1 y1 c1, .slice a2 y2 c2], .int .i64 c]) ∧ MnAns t nm ls bs c ∧ (y1 = ls.length ∧ y2 = bs.length) ∧ ManB a1 a2 w0.heap.size w'.heap.size ∧ Made w0 w' (fun w2 => VR w2 a1 (layL ls).flatten ∧ VR w2 a2 (labL bs).flatten) ∧ Below w0.heap.size w0 w' := fun w0 => rmAll t w0 hs
  have HS0 : Hid (Sta [] w [] [] w) := Sta.start w
  clear hs
  go_enter Try.func18, Try.ntmps18
  go_wp2_with (first
    | ((with_reducible refine wpList_allocV (w := w) (by with_unfolding_all rfl) 37 (by with_unfolding_all rfl) [.string ⟨#[]⟩, .slice none 0 0, .slice none 0 0, .int .i64 0] Try.zT_implManifestOut ?_); intro w1 hA1 hB1 hS1; clear hS1; have HS1 := Sta.new HS0 hA1 hB1 (by simp); clear hA1 hB1)
    | (go_at_call 56; (with_reducible refine (hC1 w1).mono ?_); rintro r w2 ⟨nm, ls, bs, a1, y1, c1, a2, y2, c2, c, rfl, an, ln, bn, hP2, hB2⟩; have Han := hidP an; clear an; have Hln := hidP ln; clear ln; have Hbn := hidP bn; clear bn; have HS2 := Sta.made HS1 hB2 hP2; clear hB2 hP2)
    | ((with_reducible refine wpList_allocV (w := w2) (by with_unfolding_all rfl) 31 (by with_unfolding_all rfl) [.string ⟨#[]⟩, .slice none 0 0, .slice none 0 0] Try.zT_implManifest ?_); intro w3 hA3 hB3 hS3; clear hS3; have HS3 := Sta.new HS2 hA3 hB3 (by simp); clear hA3 hB3)
    | ((with_reducible refine wpList_storeS (w := w3) (by with_unfolding_all rfl) 31 (.tmp 3) (.tmp 8) (by with_unfolding_all rfl) w2.heap.size [.string ⟨#[]⟩, .slice none 0 0, .slice none 0 0] [.string nm, .slice a1 y1 c1, .slice a2 y2 c2] (by with_unfolding_all rfl) (by with_unfolding_all rfl) (Sta.r (i := 0) HS3 (by with_unfolding_all rfl)) 3 Try.sT_implManifest (by with_unfolding_all rfl) (by with_unfolding_all rfl) (by with_unfolding_all rfl) ?_); intro w4 hA4 hO4; have HS4 := Sta.put 0 HS3 rfl hA4 (by simp) hO4; clear hA4 hO4)
    | ((with_reducible refine wpList_loadV (w := w4) (by with_unfolding_all rfl) 31 (.tmp 3) (by with_unfolding_all rfl) w2.heap.size [.string nm, .slice a1 y1 c1, .slice a2 y2 c2] (by with_unfolding_all rfl) (Sta.r (i := 0) HS4 (by with_unfolding_all rfl)) Try.uT_implManifest 3 Try.sT_implManifest (by with_unfolding_all rfl) ?_))
    | ((with_reducible refine wpList_storeS (w := w4) (by with_unfolding_all rfl) 37 (.tmp 2) (.tmp 12) (by with_unfolding_all rfl) w.heap.size [.string ⟨#[]⟩, .slice none 0 0, .slice none 0 0, .int .i64 0] [.string nm, .slice a1 y1 c1, .slice a2 y2 c2, .int .i64 c] (by with_unfolding_all rfl) (by with_unfolding_all rfl) (Sta.r (i := 1) HS4 (by with_unfolding_all rfl)) 4 Try.sT_implManifestOut (by with_unfolding_all rfl) (by with_unfolding_all rfl) (by with_unfolding_all rfl) ?_); intro w5 hA5 hO5; have HS5 := Sta.put 1 HS4 rfl hA5 (by simp) hO5; clear hA5 hO5))
  exact bodyPost_ret (results_V (t := 37) rfl _ w.heap.size [.string nm, .slice a1 y1 c1, .slice a2 y2 c2, .int .i64 c] rfl (Sta.r (i := 1) HS5 (by with_unfolding_all rfl)) Try.uT_implManifestOut 4 Try.sT_implManifestOut rfl) rfl ⟨nm, ls, bs, a1, y1, c1, a2, y2, c2, c, rfl, Han.out, Hln.out, ManB.mono Hbn.out (Sta.size HS1) (fun k h1 h2 => Sta.lt (i := 0) HS5 rfl k ⟨h1, h2⟩), Sta.made_of (i := 0) HS5 rfl (fun k hk => Nat.le_trans (Sta.size HS1) hk.1), Sta.fin HS5⟩
end Go.Proofs.Ytchfpiadfmnphaa
