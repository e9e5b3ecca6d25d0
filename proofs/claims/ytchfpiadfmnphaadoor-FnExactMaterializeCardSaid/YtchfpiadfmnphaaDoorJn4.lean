/- Small laws on memory that the walks of this seat share: bytes that a call appends to a slice of its own, and such a slice as a text. What the two Go functions NameRight (the specification's and the program's) answer: true just where the text is a name, whatever the text. Numbers that an int64 holds. The number that stands at a place of a text, said once: what both GetNum functions answer. Plain mathematics: no program. A scope with three labels: of two of them the run, once there, jumps on to labels that stand nearer the end, the third one is jumped back to; a number falls by each jump back. A text, a place and a code, as one value; faults; and that two such values, if they are the same, are told to be so. What the program's readNum answers, for every text and place: the number, the place behind it, and a fault that bears the code, or none. What getN tells: a code of 0 with a number, or another code with none. The text that stands at a place of a text, said once: what both GetText functions answer. What the two Go functions PutNum (the specification's and the program's) answer, for every number: one text. A number's bytes are ten at most. What the two Go functions PutText (the specification's and the program's) answer, for every text: one text. What the specification's GetNum answers, for every text and place. -/
import Derived.Test.YtchfpiadfmnphaaDoorRows
import Derived.WalkKit
import Derived.ProofKit
import Derived.Laws.BytesArg
import Derived.WalkMore
import Derived.ScopeJumps
namespace Go.Proofs.YtchfpiadfmnphaaDoor
open Go.RowKit
set_option linter.unusedVariables false

def BV (b : UInt8) : Value := .int .u8 b.toNat
theorem BV_ofNat (u : Nat) (h : u < 256) : BV (UInt8.ofNat u) = .int .u8 (u : Int) := by
  simp [BV, Nat.mod_eq_of_lt h]
def bvs (l : List UInt8) : List Value := l.map BV
theorem bvs_length (l : List UInt8) : (bvs l).length = l.length := by simp [bvs]
theorem ret_int {k : IntKind} {a b : Int} (h : a = b) : Ending.returned (.int k a) = .returned (.int k b) := by rw [h]
theorem ret_str {a b : ByteArray} (h : a = b) : Ending.returned (.string a) = .returned (.string b) := by rw [h]
theorem Tryd.infoU8 : (Tryd.prog.info? 5).map (fun i => (i.zero, i.size, i.bytes)) = some (some (.int .u8 0), 1, 1) := by kernel_rfl

/- A slice of bytes of the call's own, as a text. -/
theorem run_conv_own {P : Program} {w : World} {base e n : Nat} {v : Value} {bs : List UInt8} (src : TypeId) (hs : P.underlying src = some (.slice e)) (he : P.underlying e = some (.int .u8))
    (hown : w.ownsRow base e 1 v n (bvs bs)) : ∀ dst, P.underlying dst = some .string → (convert src dst v).run P w = .ok (.string ⟨bs.toArray⟩) w := by
  intro dst hd
  have hlen := hown.1
  rw [bvs_length] at hlen
  rcases hown.2 with ⟨rfl, rfl⟩ | ⟨g, cap, cur, rfl, hbg, hg, hnc, hcm, hcs, htake⟩
  · have : bs = [] := by simpa using hlen
    subst this
    exact run_convert_bytes_nil w src e hs he 0 0 dst hd
  · have hcells := hown.cells (g := g) rfl
    unfold bvs at hcells
    have hl : bs.length = n := by simpa using hlen
    have := run_convert_bytes_arg w src e hs he g 0 n cap (bs.map fun b => (b.toNat : Int)) (by simpa using hl) (fun i hi => by
      have := hcells i (BV bs[i]) (by simp [List.getElem?_eq_getElem (show i < bs.length by omega)])
      have he : (⟨g, 0, none⟩ : Addr).add i = ⟨g, 0 + i, none⟩ := by unfold Addr.add; split <;> simp_all
      rw [he] at this
      rw [this]
      simp [BV, List.getElem?_eq_getElem (show i < bs.length by omega)]) dst hd
    rw [this]
    congr 3
    simp [strOfNums, List.map_map, Function.comp_def]

/- One byte more. -/
theorem wpList_append_byte {P : Program} {wr : World} {ops : Array Oper} {rest : List Oper} {o : Oper} {a : Act} {Q : Exit → Act → World → Prop} (hgd : o.guard = none) (s x : Operand) (t : TypeId)
    (ho : o.op = .call { callee := .builtin .append, args := #[s, x], argTypes := #[t, t] })
    (base : Nat) (e : TypeId) (ht : P.underlying t = some (.slice e)) (hinfo : (P.info? e).map (fun i => (i.zero, i.size, i.bytes)) = some (some (.int .u8 0), 1, 1))
    (v : Value) (bs : List UInt8) (n : Nat) (hs : a.eval s = v) (hown : wr.ownsRow base e 1 v n (bvs bs)) (b : UInt8) (z : Int) (hb : BV b = .int .u8 z)
    (c : Nat) (hx : a.eval x = .slice (some ⟨wr.heap.size, 0, none⟩) 1 c) (hn : n ≤ 1000000000) (hbase : base ≤ wr.heap.size)
    (h : ∀ v' w', w'.ownsRow base e 1 v' (n + 1) (bvs (bs ++ [b])) → Below base wr w' → wpList P ops Q rest (a.put o.dst v') w') :
    wpList P ops Q (o :: rest) a (wr.alloc (.cells #[.int .u8 z] e)) := by
  obtain ⟨i0, hi, hz0, hz1, hz2⟩ := info_parts hinfo
  refine wpList_append_own _ hgd s x t ho base e i0 (.int .u8 0) 1 1 ht hi hz0 hz1 hz2 rfl (by decide) v n (bvs bs) hs (hown.alloc _) ⟨wr.heap.size, 0, none⟩ 1 c [BV b] hx rfl ?_ ?_ ?_ ?_ ?_ ?_
  · intro j u hj
    match j, hj with
    | 0, hj => simp at hj; subst hj; rw [hb]; simp [Addr.add]
  · intro u hu; simp at hu; subst hu; rfl
  · unfold maxLen; omega
  · omega
  · simp; omega
  · intro v' w' h1 h2 _
    refine h v' w' (by simpa [bvs] using h1) ?_
    exact (((Below.refl base wr).alloc hbase _).grown h2 (by simp; omega) (fun k hk => (hown.lt k hk).1))
end Go.Proofs.YtchfpiadfmnphaaDoor
namespace Go.Proofs.YtchfpiadfmnphaaDoor
open Go.RowKit
set_option linter.unusedVariables false

def OkAt (c : Int) (j : Nat) : Prop := (97 ≤ c ∧ c ≤ 122) ∨ (j ≠ 0 ∧ ((48 ≤ c ∧ c ≤ 57) ∨ c = 45))
def NameP (s : ByteArray) : Prop := 1 ≤ s.size ∧ s.size ≤ 40 ∧ ∀ j (h : j < s.size), OkAt (s[j].toNat : Int) j

def Ans (P : Prop) (e : Ending) : Prop := ∃ b : Bool, e = .returned (.bool b) ∧ (b = true ↔ P)
theorem Ans.no {P : Prop} (h : ¬ P) : Ans P (.returned (.bool false)) := ⟨false, rfl, by simp [h]⟩
theorem Ans.yes {P : Prop} (h : P) : Ans P (.returned (.bool true)) := ⟨true, rfl, by simp [h]⟩

theorem okStep {s : ByteArray} {k : Nat} (hlt : k < s.size) (H : ∀ j (h : j < s.size), j < k → OkAt (s[j].toNat : Int) j) (hk : OkAt (s[k].toNat : Int) k) :
    ∀ j (h : j < s.size), j < k + 1 → OkAt (s[j].toNat : Int) j := by
  intro j h hj
  rcases Nat.lt_succ_iff_lt_or_eq.mp hj with h1 | rfl
  · exact H j h h1
  · exact hk
theorem okHead {s : ByteArray} {k : Nat} {hp : 0 < s.size} (hlt : k < s.size) (h0 : OkAt (s[0].toNat : Int) 0) (h : (97 ≤ (s[k].toNat : Int) ∧ (s[k].toNat : Int) ≤ 122) ∨ (48 ≤ (s[k].toNat : Int) ∧ (s[k].toNat : Int) ≤ 57) ∨ (s[k].toNat : Int) = 45) :
    OkAt (s[k].toNat : Int) k := by
  by_cases hk : k = 0
  · subst hk; exact h0
  · unfold OkAt; omega
theorem seven (c : Int) : c < 45 ∨ c = 45 ∨ (45 < c ∧ c < 48) ∨ (48 ≤ c ∧ c ≤ 57) ∨ (57 < c ∧ c < 97) ∨ (97 ≤ c ∧ c ≤ 122) ∨ 122 < c := by omega

set_option maxHeartbeats 1000000 in
theorem specName (s : ByteArray) (w : World) (hs : s.size ≤ maxLen) :
    Calls Tryd.prog 100 #[.string s] w fun e w' => Ans (NameP s) e ∧ w' = w := by
  unfold maxLen at hs
  by_cases hz : s.size < 1
  · go_enter Tryd.func100, Tryd.ntmps100
    go_wp2
    go_ret
    exact ⟨Ans.no (fun h => by have := h.1; have := h.2.1; omega), rfl⟩
  by_cases hz2 : 40 < s.size
  · go_enter Tryd.func100, Tryd.ntmps100
    go_wp2
    go_ret
    exact ⟨Ans.no (fun h => by have := h.1; have := h.2.1; omega), rfl⟩
  go_enter Tryd.func100, Tryd.ntmps100
  go_wp2
  go_loop [3] (fun i => ∃ k : Nat, k ≤ s.size ∧ i = .int .i64 k ∧ ∀ j (h : j < s.size), j < k → OkAt (s[j].toNat : Int) j) (fun i => s.size - (intOf i).toNat)
  case atStart => exact ⟨0, Nat.zero_le _, rfl, fun j _ h => absurd h (Nat.not_lt_zero _)⟩
  case round =>
    obtain ⟨k, hk, rfl, hall⟩ := hrel
    have H : Hid (∀ j (h : j < s.size), j < k → OkAt (s[j].toNat : Int) j) := hall
    clear hall
    by_cases hlt : k < s.size
    · rcases seven (s[k].toNat : Int) with h | h | ⟨h, h'⟩ | ⟨h, h'⟩ | ⟨h, h'⟩ | ⟨h, h'⟩ | h
      all_goals
        rcases Nat.eq_zero_or_pos k with hk0 | hk0
        all_goals
          try have hk0' : ((k : Int) == 0) = false := by simp; omega
          try subst hk0
          go_wp2
          all_goals first
            | (exfalso; rename_i hx; simp at hx; omega)
            | (go_ret; exact ⟨Ans.no (fun hn => by have := hn.2.2 _ hlt; unfold OkAt at this; omega), rfl⟩)
            | (refine ⟨⟨_ + 1, hlt, by go_num, okStep hlt H.out ?_⟩, by simp [intOf]; omega⟩; unfold OkAt; omega)
    · go_wp2
      go_ret
      exact ⟨Ans.yes ⟨by omega, by omega, fun j h => H.out j h (by omega)⟩, rfl⟩

set_option maxHeartbeats 1000000 in
theorem implName (s : ByteArray) (w : World) (hs : s.size ≤ maxLen) :
    Calls Tryd.prog 104 #[.string s] w fun e w' => Ans (NameP s) e ∧ w' = w := by
  unfold maxLen at hs
  by_cases hz : s.size < 1
  · go_enter Tryd.func104, Tryd.ntmps104
    go_wp2
    go_ret
    exact ⟨Ans.no (fun h => by have := h.1; have := h.2.1; omega), rfl⟩
  by_cases hz2 : 40 < s.size
  · go_enter Tryd.func104, Tryd.ntmps104
    go_wp2
    go_ret
    exact ⟨Ans.no (fun h => by have := h.1; have := h.2.1; omega), rfl⟩
  have hp : 0 < s.size := by omega
  by_cases hc0 : 97 ≤ (s[0].toNat : Int) ∧ (s[0].toNat : Int) ≤ 122
  · obtain ⟨hc1, hc2⟩ := hc0
    go_enter Tryd.func104, Tryd.ntmps104
    go_wp2
    go_loop [20] (fun i => ∃ k : Nat, k ≤ s.size ∧ i = .int .i64 k ∧ ∀ j (h : j < s.size), j < k → OkAt (s[j].toNat : Int) j) (fun i => s.size - (intOf i).toNat)
    case atStart => exact ⟨0, Nat.zero_le _, rfl, fun j _ h => absurd h (Nat.not_lt_zero _)⟩
    case round =>
      obtain ⟨k, hk, rfl, hall⟩ := hrel
      have H : Hid (∀ j (h : j < s.size), j < k → OkAt (s[j].toNat : Int) j) := hall
      clear hall
      have hfirst : Hid (OkAt (s[0].toNat : Int) 0) := by show OkAt _ _; unfold OkAt; omega
      by_cases hlt : k < s.size
      · rcases seven (s[k].toNat : Int) with h | h | ⟨h, h'⟩ | ⟨h, h'⟩ | ⟨h, h'⟩ | ⟨h, h'⟩ | h
        all_goals
          go_wp2
          all_goals first
            | (exfalso; rename_i hx; simp at hx; omega)
            | (go_ret; exact ⟨Ans.no (fun hn => by have := hn.2.2 _ hlt; unfold OkAt at this; omega), rfl⟩)
            | (refine ⟨⟨_ + 1, hlt, by go_num, okStep hlt H.out (okHead hlt hfirst.out ?_)⟩, by simp [intOf]; omega⟩; omega)
      · go_wp2
        go_ret
        exact ⟨Ans.yes ⟨by omega, by omega, fun j h => H.out j h (by omega)⟩, rfl⟩
  · by_cases hc1 : 97 ≤ (s[0].toNat : Int)
    all_goals
      try have hd : decide ((s[0].toNat : Int) ≤ 122) = false := decide_eq_false (by omega)
      go_enter Tryd.func104, Tryd.ntmps104
      go_wp2
      go_ret
      exact ⟨Ans.no (fun hn => by have := hn.2.2 _ hp; unfold OkAt at this; omega), rfl⟩
end Go.Proofs.YtchfpiadfmnphaaDoor
namespace Go.Proofs.YtchfpiadfmnphaaDoor
open Go.RowKit
set_option linter.unusedVariables false

def I64 (n : Int) : Prop := (Lit.int .i64 n).wf = true
theorem I64.bd {n : Int} (h : I64 n) : -9223372036854775808 ≤ n ∧ n ≤ 9223372036854775807 := by
  unfold I64 at h
  simpa [Lit.wf, IntKind.min, IntKind.max, IntKind.signed, IntKind.bits] using h
end Go.Proofs.YtchfpiadfmnphaaDoor
namespace Go.Proofs.YtchfpiadfmnphaaDoor
open Go.RowKit
set_option linter.unusedVariables false

structure G where
  n : Int
  behind : Int
  code : Int
def unf (u : Nat) : Int := if u % 2 = 0 then ((u / 2 : Nat) : Int) else -((u / 2 : Nat) : Int) - 1
/- The byte c at place a + i is the number's last one, u what stands ahead of it. -/
def fin (a i u c : Nat) : G := if (i = 9 ∧ 1 < c) ∨ (c = 0 ∧ 0 < i) then ⟨0, 0, 3⟩ else ⟨unf (u + c * 128 ^ i), ((a + i + 1 : Nat) : Int), 0⟩
def scan (s : ByteArray) (a : Nat) : Nat → Nat → Nat → G
  | 0, _, _ => ⟨0, 0, 3⟩
  | f + 1, i, u => if h : a + i < s.size then (if s[a + i].toNat < 128 ∨ i = 9 then fin a i u s[a + i].toNat else scan s a f (i + 1) (u + (s[a + i].toNat - 128) * 128 ^ i)) else ⟨0, 0, 4⟩
def getN (s : ByteArray) (p : Int) : G := if 20000 < s.size then ⟨0, 0, 2⟩ else if p < 0 then ⟨0, 0, 1⟩ else scan s p.toNat 10 0 0
def Rd (s : ByteArray) (a : Nat) (R : G) (i u : Nat) : Prop := i ≤ 9 ∧ u < 128 ^ i ∧ ∃ f, f + i = 9 ∧ scan s a (f + 1) i u = R
theorem Rd.start (s : ByteArray) (a : Nat) : Rd s a (scan s a 10 0 0) 0 0 := ⟨by omega, by simp, 9, rfl, rfl⟩
theorem Rd.short {s : ByteArray} {a i u : Nat} {R : G} (h : Rd s a R i u) (hn : ¬ a + i < s.size) : R = ⟨0, 0, 4⟩ := by
  obtain ⟨_, _, f, _, h⟩ := h
  rw [← h, scan, dif_neg hn]
theorem Rd.last {s : ByteArray} {a i u c : Nat} {R : G} (h : Rd s a R i u) (hlt : a + i < s.size) (hc : s[a + i].toNat = c) (hl : c < 128 ∨ i = 9) : R = fin a i u c := by
  obtain ⟨_, _, f, _, h⟩ := h
  rw [← h, scan, dif_pos hlt, hc, if_pos hl]
theorem Rd.more {s : ByteArray} {a i u c : Nat} {R : G} (h : Rd s a R i u) (hlt : a + i < s.size) (hc : s[a + i].toNat = c) (h1 : 128 ≤ c) (h2 : i ≠ 9) : Rd s a R (i + 1) (u + (c - 128) * 128 ^ i) := by
  obtain ⟨h9, hu, f, hf, h⟩ := h
  rw [scan, dif_pos hlt, hc, if_neg (by omega)] at h
  have hb : c < 256 := by rw [← hc]; exact s[a + i].toNat_lt
  cases f with
  | zero => omega
  | succ f =>
    refine ⟨by omega, ?_, f, by omega, h⟩
    rw [Nat.pow_succ]
    have : (c - 128) * 128 ^ i ≤ 127 * 128 ^ i := Nat.mul_le_mul_right _ (by omega)
    omega
theorem pow_seven (k : Nat) : (2 : Int) ^ (7 * k) = ((128 ^ k : Nat) : Int) := by
  rw [Int.pow_mul]; norm_cast
/- A byte shifted by seven times its place, as the walk spells it. -/
theorem shl_z {d k : Nat} (h : d * 128 ^ k < 18446744073709551616) : IntKind.u64.wrap ((d : Int) * 2 ^ (7 * k)) = ((d * 128 ^ k : Nat) : Int) := by
  rw [pow_seven, ← Int.natCast_mul]
  generalize d * 128 ^ k = z at *
  simp [IntKind.wrap, IntKind.signed, IntKind.bits]
  omega
theorem Rd.sum {s : ByteArray} {a i u d : Nat} {R : G} (h : Rd s a R i u) (hd : d ≤ 127) (h9 : i = 9 → d ≤ 1) : u + d * 128 ^ i ≤ 18446744073709551615 := by
  obtain ⟨h1, h2, _⟩ := h
  by_cases e : i = 9
  · have := h9 e
    subst e
    have : d * 128 ^ 9 ≤ 1 * 128 ^ 9 := Nat.mul_le_mul_right _ this
    omega
  · have h3 : 128 ^ i ≤ 128 ^ 8 := Nat.pow_le_pow_right (by omega) (by omega)
    have : d * 128 ^ i ≤ 127 * 128 ^ i := Nat.mul_le_mul_right _ hd
    omega
theorem unf_odd {u : Nat} (h : u % 2 = 1) : unf u = -((u / 2 : Nat) : Int) - 1 := by unfold unf; rw [if_neg (by omega)]
theorem unf_even {u : Nat} (h : u % 2 = 0) : unf u = ((u / 2 : Nat) : Int) := by unfold unf; rw [if_pos h]
theorem fin_bad {a i u c : Nat} (h : (i = 9 ∧ 1 < c) ∨ (c = 0 ∧ 0 < i)) : fin a i u c = ⟨0, 0, 3⟩ := by unfold fin; rw [if_pos h]
theorem fin_good {a i u c : Nat} (h : ¬ ((i = 9 ∧ 1 < c) ∨ (c = 0 ∧ 0 < i))) : fin a i u c = ⟨unf (u + c * 128 ^ i), ((a + i + 1 : Nat) : Int), 0⟩ := by unfold fin; rw [if_neg h]
def gv (g : G) : Value := .agg #[.int .i64 g.n, .int .i64 g.behind, .int .i64 g.code]
theorem gv_eq {n b c : Int} {g : G} (h1 : n = g.n) (h2 : b = g.behind) (h3 : c = g.code) : Ending.returned (.agg #[.int .i64 n, .int .i64 b, .int .i64 c]) = .returned (gv g) := by subst h1 h2 h3; rfl
end Go.Proofs.YtchfpiadfmnphaaDoor
namespace Go.Proofs.YtchfpiadfmnphaaDoor
open Go.RowKit
set_option linter.unusedVariables false

/- Where a run leaves the scope's code: by a jump to label l with what J says there, or as Q says. -/
def ExitBy (J : Nat → Act → World → Prop) (Q : Exit → Act → World → Prop) : Exit → Act → World → Prop
  | .goto l, a, w => J l a w
  | e, a, w => Q e a w

theorem wp_scope_by {P : Program} {a : Act} {w : World} {Q : Exit → Act → World → Prop} {c : Code} (J : Nat → Act → World → Prop) (μ : Nat → Act → World → Nat)
    (first : c.wp P (ExitBy J Q) a w)
    (pass : ∀ l a w, J l a w → ∃ rest, findLabel c l = some rest ∧ rest.wp P (ExitBy (fun l' a' w' => J l' a' w' ∧ μ l' a' w' < μ l a w) Q) a w) : (Code.scope c).wp P Q a w := by
  intro b k cs
  have onward : ∀ n l a w, μ l a w ≤ n → J l a w → ∃ rest, findLabel c l = some rest ∧ ∃ e a' w', Q e a' w' ∧ Arrives P (lone (b.at a (.code rest :: .inScope c :: k)) cs w) b k cs e a' w' := by
    intro n
    induction n with
    | zero =>
      intro l a w hn hJ
      obtain ⟨rest, hf, hp⟩ := pass l a w hJ
      refine ⟨rest, hf, ?_⟩
      obtain ⟨e, a₁, w₁, hq, harr⟩ := hp b (.inScope c :: k) cs
      cases e with
      | goto l' => obtain ⟨_, hlt⟩ := hq; omega
      | normal => exact ⟨.normal, a₁, w₁, hq, Steps.trans harr (.one step_inScope)⟩
      | exit id => exact ⟨.exit id, a₁, w₁, hq, fun k' hk => harr k' (by simp [exitTo, hk])⟩
      | ret => exact ⟨_, a₁, w₁, hq, harr⟩
      | panic ch => exact ⟨_, a₁, w₁, hq, harr⟩
      | outgrown => exact ⟨_, a₁, w₁, hq, harr⟩
    | succ n ih =>
      intro l a w hn hJ
      obtain ⟨rest, hf, hp⟩ := pass l a w hJ
      refine ⟨rest, hf, ?_⟩
      obtain ⟨e, a₁, w₁, hq, harr⟩ := hp b (.inScope c :: k) cs
      cases e with
      | goto l' =>
        obtain ⟨hJ', hlt⟩ := hq
        obtain ⟨rest', hf', e₂, a₂, w₂, hq₂, harr₂⟩ := ih l' a₁ w₁ (by omega) hJ'
        exact ⟨e₂, a₂, w₂, hq₂, .of_steps (harr _ (by simp [gotoIn, hf'])) harr₂⟩
      | normal => exact ⟨.normal, a₁, w₁, hq, Steps.trans harr (.one step_inScope)⟩
      | exit id => exact ⟨.exit id, a₁, w₁, hq, fun k' hk => harr k' (by simp [exitTo, hk])⟩
      | ret => exact ⟨_, a₁, w₁, hq, harr⟩
      | panic ch => exact ⟨_, a₁, w₁, hq, harr⟩
      | outgrown => exact ⟨_, a₁, w₁, hq, harr⟩
  obtain ⟨e, a₁, w₁, hq, harr⟩ := first b (.inScope c :: k) cs
  cases e with
  | goto l =>
    obtain ⟨rest, hf, e₂, a₂, w₂, hq₂, harr₂⟩ := onward _ l a₁ w₁ (Nat.le_refl _) hq
    exact ⟨e₂, a₂, w₂, hq₂, .of_steps (.head step_scope (harr _ (by simp [gotoIn, hf]))) harr₂⟩
  | normal => exact ⟨.normal, a₁, w₁, hq, .head step_scope (Steps.trans harr (.one step_inScope))⟩
  | exit id => exact ⟨.exit id, a₁, w₁, hq, fun k' hk => .head step_scope (harr k' (by simp [exitTo, hk]))⟩
  | ret => exact ⟨_, a₁, w₁, hq, .of_steps (.one step_scope) harr⟩
  | panic ch => exact ⟨_, a₁, w₁, hq, .of_steps (.one step_scope) harr⟩
  | outgrown => exact ⟨_, a₁, w₁, hq, .of_steps (.one step_scope) harr⟩

/- Three labels: 1 is jumped back to, from 1 the run may go on to 2 and 0, from 2 to 0. -/
def ExitThree (J0 J1 J2 : Act → World → Prop) (Q : Exit → Act → World → Prop) : Exit → Act → World → Prop
  | .goto 0, a, w => J0 a w
  | .goto 1, a, w => J1 a w
  | .goto 2, a, w => J2 a w
  | .goto _, _, _ => False
  | e, a, w => Q e a w
theorem exitThree_of {J0 J1 J2 : Act → World → Prop} {Q : Exit → Act → World → Prop} {J : Nat → Act → World → Prop} (h0 : ∀ a w, J0 a w → J 0 a w) (h1 : ∀ a w, J1 a w → J 1 a w) (h2 : ∀ a w, J2 a w → J 2 a w) :
    ∀ e a w, ExitThree J0 J1 J2 Q e a w → ExitBy J Q e a w := by
  intro e a w h
  cases e with
  | goto l =>
    match l, h with
    | 0, h => exact h0 a w h
    | 1, h => exact h1 a w h
    | 2, h => exact h2 a w h
    | _ + 3, h => exact h.elim
  | normal => exact h
  | exit id => exact h
  | ret => exact h
  | panic ch => exact h
  | outgrown => exact h
theorem exitThree_drop {J0 J1 J2 X : Act → World → Prop} {Q : Exit → Act → World → Prop} : ∀ e a w, ExitThree J0 (fun a' w' => J1 a' w' ∧ X a' w') J2 Q e a w → ExitThree J0 J1 J2 Q e a w := by
  intro e a w h
  cases e with
  | goto l =>
    match l, h with
    | 0, h => exact h
    | 1, h => exact h.1
    | 2, h => exact h
    | _ + 3, h => exact h
  | normal => exact h
  | exit id => exact h
  | ret => exact h
  | panic ch => exact h
  | outgrown => exact h
theorem wp_weaken {P : Program} {c : Code} {Q Q' : Exit → Act → World → Prop} {a : Act} {w : World} (h : c.wp P Q a w) (hq : ∀ e a w, Q e a w → Q' e a w) : c.wp P Q' a w := by
  intro b k cs
  obtain ⟨e, a', w', h1, h2⟩ := h b k cs
  exact ⟨e, a', w', hq _ _ _ h1, h2⟩
def jThree (J0 J1 J2 : Act → World → Prop) : Nat → Act → World → Prop
  | 0, a, w => J0 a w
  | 1, a, w => J1 a w
  | 2, a, w => J2 a w
  | _, _, _ => False
def mThree (μ : Act → World → Nat) : Nat → Act → World → Nat
  | 0, _, _ => 0
  | 2, _, _ => 1
  | _, a, w => μ a w + 2
theorem wp_scope_three {P : Program} {a : Act} {w : World} {Q : Exit → Act → World → Prop} {c r0 r1 r2 : Code} (J0 J1 J2 : Act → World → Prop) (μ : Act → World → Nat)
    (h0 : findLabel c 0 = some r0) (h1 : findLabel c 1 = some (.seq .skip r1)) (h2 : findLabel c 2 = some r2)
    (first : (∀ a w, J1 a w → r1.wp P (ExitThree J0 J1 J2 Q) a w) → c.wp P (ExitThree J0 J1 J2 Q) a w)
    (p1 : ∀ a w, J1 a w → r1.wp P (ExitThree J0 (fun a' w' => J1 a' w' ∧ μ a' w' < μ a w) J2 Q) a w)
    (p2 : ∀ a w, J2 a w → r2.wp P (ExitThree J0 (fun _ _ => False) (fun _ _ => False) Q) a w)
    (p0 : ∀ a w, J0 a w → r0.wp P (ExitThree (fun _ _ => False) (fun _ _ => False) (fun _ _ => False) Q) a w) : (Code.scope c).wp P Q a w := by
  have first := first fun a w hJ => wp_weaken (p1 a w hJ) exitThree_drop
  refine wp_scope_by (jThree J0 J1 J2) (mThree μ) (wp_weaken first (exitThree_of (fun _ _ h => h) (fun _ _ h => h) (fun _ _ h => h))) ?_
  intro l a w hJ
  match l, hJ with
  | 0, hJ => exact ⟨r0, h0, wp_weaken (p0 a w hJ) (exitThree_of (fun _ _ h => h.elim) (fun _ _ h => h.elim) (fun _ _ h => h.elim))⟩
  | 1, hJ => exact ⟨_, h1, wp_weaken (wp_seq (wp_skip (p1 a w hJ))) (exitThree_of (fun _ _ h => ⟨h, by simp [mThree]⟩) (fun _ _ h => ⟨h.1, by have := h.2; simp [mThree]; omega⟩) (fun _ _ h => ⟨h, by simp [mThree]⟩))⟩
  | 2, hJ => exact ⟨r2, h2, wp_weaken (p2 a w hJ) (exitThree_of (fun _ _ h => ⟨h, by simp [mThree]⟩) (fun _ _ h => h.elim) (fun _ _ h => h.elim))⟩
  | _ + 3, hJ => exact hJ.elim
end Go.Proofs.YtchfpiadfmnphaaDoor
namespace Go.Proofs.YtchfpiadfmnphaaDoor
open Go.RowKit
set_option linter.unusedVariables false

def errV (c : Int) : Value := if c = 0 then .nilIface else .iface 149 (.agg #[.int .i64 c])
theorem ret_val {v v' : Value} (h : v = v') : Ending.returned v = .returned v' := by rw [h]
structure TX where
  text : ByteArray
  behind : Int
  code : Int
def tv (t : TX) : Value := .agg #[.string t.text, .int .i64 t.behind, .int .i64 t.code]
def noText : ByteArray := ⟨#[]⟩
theorem below_end {w w1 : World} {v0 v1 v2 : Value} {o : Obj} {B : Nat} (hb : Below B w w1) (hB : B ≤ w1.heap.size) : Below B w ((((w1.setCell ⟨B, 0, none⟩ v0).setCell ⟨B, 1, none⟩ v1).setCell ⟨B, 2, none⟩ v2).alloc o) :=
  (((hb.setCell (Nat.le_refl _) _).setCell (Nat.le_refl _) _).setCell (Nat.le_refl _) _).alloc (by simpa [World.setCell] using hB) _
end Go.Proofs.YtchfpiadfmnphaaDoor
namespace Go.Proofs.YtchfpiadfmnphaaDoor
open Go.RowKit
set_option linter.unusedVariables false

def rv (g : G) : Value := .tuple #[.int .i64 g.n, .int .i64 g.behind, errV g.code]
theorem rv_bad {g : G} {c : Int} (h : g = ⟨0, 0, c⟩) (hc : c ≠ 0) : rv g = .tuple #[.int .i64 0, .int .i64 0, .iface 149 (.agg #[.int .i64 c])] := by
  subst h; simp [rv, errV, hc]
theorem rv_good {g : G} {n b : Int} (h : g = ⟨n, b, 0⟩) : rv g = .tuple #[.int .i64 n, .int .i64 b, .nilIface] := by
  subst h; simp [rv, errV]

/- What holds at the three labels: more (1), last (2), wrong (0). -/
def AtMore (s : ByteArray) (a : Nat) (R : G) (act : Act) : Prop := ∃ (U : Nat → Value) (i u : Nat) (uv bv : Int),
  act = ⟨#[.string s, .int .i64 a, undef, undef, .int .i64 0, .int .i64 0, .nilIface, .int .u64 uv, U 8, .int .i64 bv, .int .i64 4, .nilIface, U 12, U 13, U 14, U 15, U 16, U 17, U 18, U 19, U 20, U 21, U 22, U 23, U 24, U 25, U 26, U 27, U 28, U 29, U 30, U 31, U 32, U 33, U 34, U 35, U 36, U 37, U 38, U 39, U 40, U 41, U 42, U 43, U 44, U 45, U 46, U 47, U 48, U 49, U 50, U 51, U 52, U 53, U 54, U 55, U 56, U 57, U 58, U 59, U 60, U 61, U 62, U 63, U 64, U 65, U 66, U 67, U 68], []⟩ ∧ uv = (u : Int) ∧ bv = (a : Int) + (i : Int) ∧ Rd s a R i u
structure Lst (a : Nat) (R : G) (i u c : Nat) : Prop where
  res : R = fin a i u c
  nine : i ≤ 9
  byte : c ≤ 255
  last : c < 128 ∨ i = 9
  room : a + i < 20000
  sum : c ≤ 127 → (i = 9 → c ≤ 1) → u + c * 128 ^ i ≤ 18446744073709551615
def AtLast (s : ByteArray) (a : Nat) (R : G) (act : Act) : Prop := ∃ (U : Nat → Value) (i u c : Nat) (uv bv cv : Int),
  act = ⟨#[.string s, .int .i64 a, undef, undef, .int .i64 0, .int .i64 0, .nilIface, .int .u64 uv, .int .u8 cv, .int .i64 bv, .int .i64 4, .nilIface, U 12, U 13, U 14, U 15, U 16, U 17, U 18, U 19, U 20, U 21, U 22, U 23, U 24, U 25, U 26, U 27, U 28, U 29, U 30, U 31, U 32, U 33, U 34, U 35, U 36, U 37, U 38, U 39, U 40, U 41, U 42, U 43, U 44, U 45, U 46, U 47, U 48, U 49, U 50, U 51, U 52, U 53, U 54, U 55, U 56, U 57, U 58, U 59, U 60, U 61, U 62, U 63, U 64, U 65, U 66, U 67, U 68], []⟩ ∧ uv = (u : Int) ∧ bv = (a : Int) + (i : Int) + 1 ∧ cv = (c : Int) ∧ Lst a R i u c
def AtWrong (s : ByteArray) (a : Nat) (R : G) (act : Act) : Prop := ∃ (U : Nat → Value) (ev : Int),
  act = ⟨#[.string s, .int .i64 a, undef, undef, .int .i64 0, .int .i64 0, .nilIface, U 7, U 8, U 9, .int .i64 ev, U 11, U 12, U 13, U 14, U 15, U 16, U 17, U 18, U 19, U 20, U 21, U 22, U 23, U 24, U 25, U 26, U 27, U 28, U 29, U 30, U 31, U 32, U 33, U 34, U 35, U 36, U 37, U 38, U 39, U 40, U 41, U 42, U 43, U 44, U 45, U 46, U 47, U 48, U 49, U 50, U 51, U 52, U 53, U 54, U 55, U 56, U 57, U 58, U 59, U 60, U 61, U 62, U 63, U 64, U 65, U 66, U 67, U 68], []⟩ ∧ R = ⟨0, 0, ev⟩ ∧ ev ≠ 0
theorem AtMore.mk {s : ByteArray} {a : Nat} {R : G} {act : Act} (i u : Nat) {uv bv : Int} (h : act = ⟨#[.string s, .int .i64 a, undef, undef, .int .i64 0, .int .i64 0, .nilIface, .int .u64 uv, act.tmps.getD 8 undef, .int .i64 bv, .int .i64 4, .nilIface, act.tmps.getD 12 undef, act.tmps.getD 13 undef, act.tmps.getD 14 undef, act.tmps.getD 15 undef, act.tmps.getD 16 undef, act.tmps.getD 17 undef, act.tmps.getD 18 undef, act.tmps.getD 19 undef, act.tmps.getD 20 undef, act.tmps.getD 21 undef, act.tmps.getD 22 undef, act.tmps.getD 23 undef, act.tmps.getD 24 undef, act.tmps.getD 25 undef, act.tmps.getD 26 undef, act.tmps.getD 27 undef, act.tmps.getD 28 undef, act.tmps.getD 29 undef, act.tmps.getD 30 undef, act.tmps.getD 31 undef, act.tmps.getD 32 undef, act.tmps.getD 33 undef, act.tmps.getD 34 undef, act.tmps.getD 35 undef, act.tmps.getD 36 undef, act.tmps.getD 37 undef, act.tmps.getD 38 undef, act.tmps.getD 39 undef, act.tmps.getD 40 undef, act.tmps.getD 41 undef, act.tmps.getD 42 undef, act.tmps.getD 43 undef, act.tmps.getD 44 undef, act.tmps.getD 45 undef, act.tmps.getD 46 undef, act.tmps.getD 47 undef, act.tmps.getD 48 undef, act.tmps.getD 49 undef, act.tmps.getD 50 undef, act.tmps.getD 51 undef, act.tmps.getD 52 undef, act.tmps.getD 53 undef, act.tmps.getD 54 undef, act.tmps.getD 55 undef, act.tmps.getD 56 undef, act.tmps.getD 57 undef, act.tmps.getD 58 undef, act.tmps.getD 59 undef, act.tmps.getD 60 undef, act.tmps.getD 61 undef, act.tmps.getD 62 undef, act.tmps.getD 63 undef, act.tmps.getD 64 undef, act.tmps.getD 65 undef, act.tmps.getD 66 undef, act.tmps.getD 67 undef, act.tmps.getD 68 undef], []⟩) (hu : uv = (u : Int)) (hb : bv = (a : Int) + (i : Int)) (hr : Rd s a R i u) : AtMore s a R act :=
  ⟨fun k => act.tmps.getD k undef, i, u, uv, bv, h, hu, hb, hr⟩
theorem AtLast.mk {s : ByteArray} {a : Nat} {R : G} {act : Act} (i u c : Nat) {uv bv cv : Int} (h : act = ⟨#[.string s, .int .i64 a, undef, undef, .int .i64 0, .int .i64 0, .nilIface, .int .u64 uv, .int .u8 cv, .int .i64 bv, .int .i64 4, .nilIface, act.tmps.getD 12 undef, act.tmps.getD 13 undef, act.tmps.getD 14 undef, act.tmps.getD 15 undef, act.tmps.getD 16 undef, act.tmps.getD 17 undef, act.tmps.getD 18 undef, act.tmps.getD 19 undef, act.tmps.getD 20 undef, act.tmps.getD 21 undef, act.tmps.getD 22 undef, act.tmps.getD 23 undef, act.tmps.getD 24 undef, act.tmps.getD 25 undef, act.tmps.getD 26 undef, act.tmps.getD 27 undef, act.tmps.getD 28 undef, act.tmps.getD 29 undef, act.tmps.getD 30 undef, act.tmps.getD 31 undef, act.tmps.getD 32 undef, act.tmps.getD 33 undef, act.tmps.getD 34 undef, act.tmps.getD 35 undef, act.tmps.getD 36 undef, act.tmps.getD 37 undef, act.tmps.getD 38 undef, act.tmps.getD 39 undef, act.tmps.getD 40 undef, act.tmps.getD 41 undef, act.tmps.getD 42 undef, act.tmps.getD 43 undef, act.tmps.getD 44 undef, act.tmps.getD 45 undef, act.tmps.getD 46 undef, act.tmps.getD 47 undef, act.tmps.getD 48 undef, act.tmps.getD 49 undef, act.tmps.getD 50 undef, act.tmps.getD 51 undef, act.tmps.getD 52 undef, act.tmps.getD 53 undef, act.tmps.getD 54 undef, act.tmps.getD 55 undef, act.tmps.getD 56 undef, act.tmps.getD 57 undef, act.tmps.getD 58 undef, act.tmps.getD 59 undef, act.tmps.getD 60 undef, act.tmps.getD 61 undef, act.tmps.getD 62 undef, act.tmps.getD 63 undef, act.tmps.getD 64 undef, act.tmps.getD 65 undef, act.tmps.getD 66 undef, act.tmps.getD 67 undef, act.tmps.getD 68 undef], []⟩) (hu : uv = (u : Int)) (hb : bv = (a : Int) + (i : Int) + 1) (hc : cv = (c : Int)) (hl : Lst a R i u c) : AtLast s a R act :=
  ⟨fun k => act.tmps.getD k undef, i, u, c, uv, bv, cv, h, hu, hb, hc, hl⟩
theorem AtWrong.mk {s : ByteArray} {a : Nat} {R : G} {act : Act} {ev : Int} (h : act = ⟨#[.string s, .int .i64 a, undef, undef, .int .i64 0, .int .i64 0, .nilIface, act.tmps.getD 7 undef, act.tmps.getD 8 undef, act.tmps.getD 9 undef, .int .i64 ev, act.tmps.getD 11 undef, act.tmps.getD 12 undef, act.tmps.getD 13 undef, act.tmps.getD 14 undef, act.tmps.getD 15 undef, act.tmps.getD 16 undef, act.tmps.getD 17 undef, act.tmps.getD 18 undef, act.tmps.getD 19 undef, act.tmps.getD 20 undef, act.tmps.getD 21 undef, act.tmps.getD 22 undef, act.tmps.getD 23 undef, act.tmps.getD 24 undef, act.tmps.getD 25 undef, act.tmps.getD 26 undef, act.tmps.getD 27 undef, act.tmps.getD 28 undef, act.tmps.getD 29 undef, act.tmps.getD 30 undef, act.tmps.getD 31 undef, act.tmps.getD 32 undef, act.tmps.getD 33 undef, act.tmps.getD 34 undef, act.tmps.getD 35 undef, act.tmps.getD 36 undef, act.tmps.getD 37 undef, act.tmps.getD 38 undef, act.tmps.getD 39 undef, act.tmps.getD 40 undef, act.tmps.getD 41 undef, act.tmps.getD 42 undef, act.tmps.getD 43 undef, act.tmps.getD 44 undef, act.tmps.getD 45 undef, act.tmps.getD 46 undef, act.tmps.getD 47 undef, act.tmps.getD 48 undef, act.tmps.getD 49 undef, act.tmps.getD 50 undef, act.tmps.getD 51 undef, act.tmps.getD 52 undef, act.tmps.getD 53 undef, act.tmps.getD 54 undef, act.tmps.getD 55 undef, act.tmps.getD 56 undef, act.tmps.getD 57 undef, act.tmps.getD 58 undef, act.tmps.getD 59 undef, act.tmps.getD 60 undef, act.tmps.getD 61 undef, act.tmps.getD 62 undef, act.tmps.getD 63 undef, act.tmps.getD 64 undef, act.tmps.getD 65 undef, act.tmps.getD 66 undef, act.tmps.getD 67 undef, act.tmps.getD 68 undef], []⟩) (hr : R = ⟨0, 0, ev⟩) (he : ev ≠ 0) : AtWrong s a R act :=
  ⟨fun k => act.tmps.getD k undef, ev, h, hr, he⟩

theorem rv3 {n n' b b' : Int} {e : Value} (h1 : n = n') (h2 : b = b') : Value.tuple #[.int .i64 n, .int .i64 b, e] = .tuple #[.int .i64 n', .int .i64 b', e] := by rw [h1, h2]
theorem shl_more {a i u c : Nat} (hc : 128 ≤ c) (h : u + (c - 128) * 128 ^ i ≤ 18446744073709551615) :
    IntKind.u64.wrap ((u : Int) + IntKind.u64.wrap (((c : Int) - 128) * 2 ^ (7 * (a + i + 1 - a - 1)))) = ((u + (c - 128) * 128 ^ i : Nat) : Int) := by
  rw [show a + i + 1 - a - 1 = i by omega, show (c : Int) - 128 = ((c - 128 : Nat) : Int) by omega, shl_z (by omega)]
  generalize (c - 128) * 128 ^ i = z at *
  simp [IntKind.wrap, IntKind.signed, IntKind.bits]
  omega

set_option maxRecDepth 100000 in
set_option maxHeartbeats 1000000 in
theorem readNum_any (s : ByteArray) (p : Int) (w : World) (hs : s.size ≤ maxLen) (hp : I64 p) :
    Calls Tryd.prog 103 #[.string s, .int .i64 p] w fun e w' => e = .returned (rv (getN s p)) ∧ w' = w := by
  unfold maxLen at hs
  by_cases hbig : 20000 < s.size
  · have HR : Hid (rv (getN s p) = _) := rv_bad (c := 2) (by unfold getN; rw [if_pos hbig]) (by decide)
    go_enter Tryd.func103, Tryd.ntmps103
    go_wp2
    go_step3
    go_wp2
    rw [Exit.noGoto_ret]
    go_ret3
    exact ⟨ret_val HR.out.symm, rfl⟩
  by_cases hneg : p < 0
  · have HR : Hid (rv (getN s p) = _) := rv_bad (c := 1) (by unfold getN; rw [if_neg hbig, if_pos hneg]) (by decide)
    go_enter Tryd.func103, Tryd.ntmps103
    go_wp2
    go_step3
    go_wp2
    rw [Exit.noGoto_ret]
    go_ret3
    exact ⟨ret_val HR.out.symm, rfl⟩
  obtain ⟨a, rfl⟩ := Int.eq_ofNat_of_zero_le (show 0 ≤ p by omega)
  have ha : (a : Int) ≤ 9223372036854775807 := hp.bd.2
  have HR : Hid (getN s (a : Int) = scan s a 10 0 0) := by show getN _ _ = _; unfold getN; rw [if_neg hbig, if_neg hneg]; rfl
  have hst := Rd.start s a
  generalize scan s a 10 0 0 = R at *
  have HS : Hid (Rd s a R 0 0) := hst
  clear hp hneg hst
  go_enter Tryd.func103, Tryd.ntmps103
  go_wp2
  refine wp_scope_three (fun act w' => AtWrong s a R act ∧ w' = w) (fun act w' => AtMore s a R act ∧ w' = w) (fun act w' => AtLast s a R act ∧ w' = w) (fun act _ => 20000 - (intOf (act.tmps.getD 9 undef)).toNat) rfl rfl rfl ?_ ?_ ?_ ?_
  · intro hP
    have HP := hP
    clear hP
    go_wp2
    go_step3
    rename_i K hK
    exact hK _ _ (HP _ _ ⟨AtMore.mk 0 0 rfl rfl (by simp) HS.out, rfl⟩)
  · rintro act w' ⟨⟨U, i, u, uv, bv, rfl, rfl, rfl, hrd⟩, rfl⟩
    have hk := hrd.1
    have HRd : Hid (Rd s a R i u) := hrd
    clear hrd HS
    by_cases hlt : a + i < s.size
    · obtain ⟨c, hc⟩ : ∃ c : Nat, s[a + i].toNat = c := ⟨_, rfl⟩
      have hc1 : c ≤ 255 := by have := s[a + i].toNat_lt; omega
      have hc2 : (s[a + i].toNat : Int) = (c : Int) := by omega
      have HC : Hid (s[a + i].toNat = c) := hc
      clear hc
      have hroom : a + i < 20000 := by omega
      by_cases h128 : 128 ≤ c
      · by_cases h9 : 9 ≤ i
        · have hb : ((a : Int) + (i : Int) + 1 - (a : Int) == 10) = true := beq_iff_eq.2 (by omega)
          have HL : Hid (Lst a R i u c) := ⟨HRd.out.last hlt HC.out (by omega), hk, hc1, by omega, hroom, fun h => by omega⟩
          clear HRd
          go_wp2
          go_step3
          exact ⟨AtLast.mk i u c rfl rfl rfl rfl HL.out, rfl⟩
        · have hb : ((a : Int) + (i : Int) + 1 - (a : Int) == 10) = false := beq_eq_false_iff_ne.2 (by omega)
          have HRd2 : Hid (Rd s a R (i + 1) (u + (c - 128) * 128 ^ i)) := HRd.out.more hlt HC.out h128 (by omega)
          have HSm : Hid (IntKind.u64.wrap ((u : Int) + IntKind.u64.wrap (((c : Int) - 128) * 2 ^ (7 * (a + i + 1 - a - 1)))) = ((u + (c - 128) * 128 ^ i : Nat) : Int)) := shl_more h128 (HRd.out.sum (by omega) (by omega))
          clear HRd
          go_wp2
          go_step3
          exact ⟨⟨AtMore.mk (i + 1) _ rfl HSm.out (by omega) HRd2.out, rfl⟩, by simp [intOf]; omega⟩
      · have HL : Hid (Lst a R i u c) := ⟨HRd.out.last hlt HC.out (by omega), hk, hc1, by omega, hroom, fun h1 h2 => HRd.out.sum h1 h2⟩
        clear HRd
        go_wp2
        go_step3
        exact ⟨AtLast.mk i u c rfl rfl rfl rfl HL.out, rfl⟩
    · have HW : Hid (R = ⟨0, 0, 4⟩) := HRd.out.short hlt
      clear HRd
      go_wp2
      go_step3
      exact ⟨AtWrong.mk rfl HW.out (by decide), rfl⟩
  · rintro act w' ⟨⟨U, i, u, c, uv, bv, cv, rfl, rfl, rfl, rfl, hl⟩, rfl⟩
    have hk := hl.nine
    have hc1 := hl.byte
    have hroom := hl.room
    have HL : Hid (Lst a R i u c) := hl
    clear hl HS
    by_cases hbad : (9 ≤ i ∧ 1 < c) ∨ (c ≤ 0 ∧ 0 < i)
    · have HW : Hid (R = ⟨0, 0, 3⟩) := by show R = _; rw [HL.out.res, fin_bad (by omega)]
      clear HL
      rcases hbad with ⟨hb1, hb2⟩ | ⟨hb1, hb2⟩
      · have hb : ((a : Int) + (i : Int) + 1 - (a : Int) == 10) = true := beq_iff_eq.2 (by omega)
        go_wp2
        go_step3
        exact ⟨AtWrong.mk rfl HW.out (by decide), rfl⟩
      · have hb' : ((a : Int) + (i : Int) + 1 - (a : Int) == 1) = false := beq_eq_false_iff_ne.2 (by omega)
        have hz : ((c : Int) != 0) = false := by simp; omega
        by_cases h9 : 9 ≤ i
        · have hb : ((a : Int) + (i : Int) + 1 - (a : Int) == 10) = true := beq_iff_eq.2 (by omega)
          go_wp2
          go_step3
          exact ⟨AtWrong.mk rfl HW.out (by decide), rfl⟩
        · have hb : ((a : Int) + (i : Int) + 1 - (a : Int) == 10) = false := beq_eq_false_iff_ne.2 (by omega)
          go_wp2
          go_step3
          exact ⟨AtWrong.mk rfl HW.out (by decide), rfl⟩
    · have hlast := HL.out.last
      have hsum := HL.out.sum (by omega) (by omega)
      obtain ⟨z, hz⟩ : ∃ z : Nat, c * 128 ^ i = z := ⟨_, rfl⟩
      have e1 : IntKind.u64.wrap ((c : Int) * 2 ^ (7 * (a + i + 1 - a - 1))) = (z : Int) := by
        rw [show a + i + 1 - a - 1 = i by omega, shl_z (by omega), hz]
      rw [hz] at hsum
      have hsum2 : (u : Int) + (z : Int) ≤ 18446744073709551615 := by omega
      have HF : Hid (getN s a = ⟨unf (u + z), ((a + i + 1 : Nat) : Int), 0⟩) := by show getN _ _ = _; rw [HR.out, HL.out.res, fin_good (by omega), hz]
      have hways : (9 ≤ i ∧ 0 < c ∧ c ≤ 1) ∨ (0 < i ∧ i < 9 ∧ 0 < c) ∨ i ≤ 0 := by omega
      clear HR HL hz hsum hbad hlast
      have hb10 : ((a : Int) + (i : Int) + 1 - (a : Int) == 10) = decide (9 ≤ i) := by
        by_cases h : 9 ≤ i
        · rw [decide_eq_true h]; exact beq_iff_eq.2 (by omega)
        · rw [decide_eq_false h]; exact beq_eq_false_iff_ne.2 (by omega)
      have hb1 : ((a : Int) + (i : Int) + 1 - (a : Int) == 1) = decide (i ≤ 0) := by
        by_cases h : i ≤ 0
        · rw [decide_eq_true h]; exact beq_iff_eq.2 (by omega)
        · rw [decide_eq_false h]; exact beq_eq_false_iff_ne.2 (by omega)
      rcases Nat.mod_two_eq_zero_or_one (u + z) with hpar | hpar
      · have HU := unf_even hpar
        have HV : Hid (rv (getN s a) = _) := rv_good (HF.out.trans (by rw [HU]))
        have hpi : ((u : Int) + (z : Int)) % 2 < 1 := by omega
        clear HU hpar HF
        rcases hways with ⟨hw1, hw2, hw3⟩ | ⟨hw1, hw2, hw3⟩ | hw1
        all_goals
          first
            | (rw [decide_eq_true (show 9 ≤ i by omega)] at hb10)
            | (rw [decide_eq_false (show ¬ 9 ≤ i by omega)] at hb10)
          first
            | (rw [decide_eq_true (show i ≤ 0 by omega)] at hb1)
            | (rw [decide_eq_false (show ¬ i ≤ 0 by omega)] at hb1)
          try have hc0 : ((c : Int) != 0) = true := bne_iff_ne.2 (by omega)
          go_wp2
          simp only [ExitThree]
          go_ret3
          exact ⟨ret_val (HV.out.trans (rv3 (by omega) (by omega))).symm, rfl⟩
      · have HU := unf_odd hpar
        have HV : Hid (rv (getN s a) = _) := rv_good (HF.out.trans (by rw [HU]))
        have hpi : 1 ≤ ((u : Int) + (z : Int)) % 2 := by omega
        clear HU hpar HF
        rcases hways with ⟨hw1, hw2, hw3⟩ | ⟨hw1, hw2, hw3⟩ | hw1
        all_goals
          first
            | (rw [decide_eq_true (show 9 ≤ i by omega)] at hb10)
            | (rw [decide_eq_false (show ¬ 9 ≤ i by omega)] at hb10)
          first
            | (rw [decide_eq_true (show i ≤ 0 by omega)] at hb1)
            | (rw [decide_eq_false (show ¬ i ≤ 0 by omega)] at hb1)
          try have hc0 : ((c : Int) != 0) = true := bne_iff_ne.2 (by omega)
          go_wp2
          simp only [ExitThree]
          go_ret3
          exact ⟨ret_val (HV.out.trans (rv3 (by omega) (by omega))).symm, rfl⟩
  · rintro act w' ⟨⟨U, ev, rfl, hr, he⟩, rfl⟩
    have HF : Hid (rv (getN s a) = _) := rv_bad (HR.out.trans hr) he
    clear HR hr HS
    go_wp2
    simp only [ExitThree]
    go_ret3
    exact ⟨ret_val HF.out.symm, rfl⟩
end Go.Proofs.YtchfpiadfmnphaaDoor
namespace Go.Proofs.YtchfpiadfmnphaaDoor
open Go.RowKit
set_option linter.unusedVariables false

/- The code is 0, with a number; or it is not, with none. -/
theorem fin_code (a i u c : Nat) : (fin a i u c).code = 0 ∨ fin a i u c = ⟨0, 0, 3⟩ := by
  unfold fin; split
  · exact Or.inr rfl
  · exact Or.inl rfl
theorem scan_code (s : ByteArray) (a : Nat) : ∀ f i u, (scan s a f i u).code = 0 ∨ ∃ c, c ≠ 0 ∧ scan s a f i u = ⟨0, 0, c⟩
  | 0, _, _ => Or.inr ⟨3, by decide, rfl⟩
  | f + 1, i, u => by
    unfold scan
    split
    · split
      · rcases fin_code a i u _ with h | h
        · exact Or.inl h
        · exact Or.inr ⟨3, by decide, h⟩
      · exact scan_code s a f _ _
    · exact Or.inr ⟨4, by decide, rfl⟩
theorem getN_code (s : ByteArray) (p : Int) : (getN s p).code = 0 ∨ ∃ c, c ≠ 0 ∧ getN s p = ⟨0, 0, c⟩ := by
  unfold getN
  split
  · exact Or.inr ⟨2, by decide, rfl⟩
  · split
    · exact Or.inr ⟨1, by decide, rfl⟩
    · exact scan_code s _ _ _ _

end Go.Proofs.YtchfpiadfmnphaaDoor
namespace Go.Proofs.YtchfpiadfmnphaaDoor
open Go.RowKit
set_option linter.unusedVariables false

def getT (s : ByteArray) (p : Int) : TX :=
  if (getN s p).code ≠ 0 then ⟨noText, 0, (getN s p).code⟩
  else if (getN s p).n < 0 ∨ 20000 < (getN s p).n then ⟨noText, 0, 3⟩
  else if (s.size : Int) < (getN s p).behind + (getN s p).n then ⟨noText, 0, 4⟩
  else ⟨s.extract (getN s p).behind.toNat ((getN s p).behind + (getN s p).n).toNat, (getN s p).behind + (getN s p).n, 0⟩
theorem scan_behind (s : ByteArray) (a : Nat) : ∀ f i u, (scan s a f i u).code = 0 → ∃ b : Nat, (scan s a f i u).behind = (b : Int) ∧ b ≤ s.size
  | 0, _, _ => fun h => absurd (show (3 : Int) = 0 from h) (by decide)
  | f + 1, i, u => by
    intro h
    unfold scan at h ⊢
    split at h
    · rename_i hlt
      rw [dif_pos hlt]
      split at h
      · rename_i hl
        rw [if_pos hl]
        unfold fin at h ⊢
        split at h
        · exact absurd h (by decide)
        · rename_i hn
          rw [if_neg hn]
          exact ⟨_, rfl, hlt⟩
      · rename_i hl
        rw [if_neg hl]
        exact scan_behind s a f _ _ h
    · exact absurd h (by decide)
theorem getN_behind {s : ByteArray} {p : Int} (h : (getN s p).code = 0) : s.size ≤ 20000 ∧ ∃ b : Nat, (getN s p).behind = (b : Int) ∧ b ≤ s.size := by
  unfold getN at h ⊢
  split at h
  · exact absurd h (by decide)
  · rename_i h1
    rw [if_neg h1]
    split at h
    · exact absurd h (by decide)
    · rename_i h2
      rw [if_neg h2]
      exact ⟨by omega, scan_behind s _ _ _ _ h⟩
/- The five ways of an answer. -/
theorem getT_ways (s : ByteArray) (p : Int) :
    (∃ c, c ≠ 0 ∧ getN s p = ⟨0, 0, c⟩ ∧ getT s p = ⟨noText, 0, c⟩) ∨
    (∃ (n : Int) (b : Nat), getN s p = ⟨n, b, 0⟩ ∧ (n < 0 ∨ 20000 < n) ∧ s.size ≤ 20000 ∧ b ≤ s.size ∧ getT s p = ⟨noText, 0, 3⟩) ∨
    (∃ (m b : Nat), getN s p = ⟨m, b, 0⟩ ∧ m ≤ 20000 ∧ s.size < b + m ∧ s.size ≤ 20000 ∧ b ≤ s.size ∧ getT s p = ⟨noText, 0, 4⟩) ∨
    (∃ (m b : Nat), getN s p = ⟨m, b, 0⟩ ∧ m ≤ 20000 ∧ b + m ≤ s.size ∧ s.size ≤ 20000 ∧ b ≤ s.size ∧ getT s p = ⟨s.extract b (b + m), ((b + m : Nat) : Int), 0⟩) := by
  rcases getN_code s p with hc | ⟨c, hc, hg⟩
  · obtain ⟨hs, b, hb, hbs⟩ := getN_behind hc
    obtain ⟨n, hn⟩ : ∃ n, (getN s p).n = n := ⟨_, rfl⟩
    have hg : getN s p = ⟨n, b, 0⟩ := by
      cases hx : getN s p
      rw [hx] at hn hb hc
      simp at hn hb hc
      rw [hn, hb, hc]
    right
    by_cases h1 : n < 0 ∨ 20000 < n
    · exact Or.inl ⟨n, b, hg, h1, hs, hbs, by unfold getT; rw [hg]; rw [if_neg (by simp), if_pos h1]⟩
    · obtain ⟨m, rfl⟩ := Int.eq_ofNat_of_zero_le (show 0 ≤ n by omega)
      right
      by_cases h2 : s.size < b + m
      · exact Or.inl ⟨m, b, hg, by omega, h2, hs, hbs, by unfold getT; rw [hg]; rw [if_neg (by simp), if_neg h1, if_pos (by show (s.size : Int) < (b : Int) + (m : Int); omega)]⟩
      · exact Or.inr ⟨m, b, hg, by omega, by omega, hs, hbs, by unfold getT; rw [hg]; rw [if_neg (by simp), if_neg h1, if_neg (by show ¬ (s.size : Int) < (b : Int) + (m : Int); omega)]; rfl⟩
  · exact Or.inl ⟨c, hc, hg, by unfold getT; rw [hg]; rw [if_pos hc]⟩
end Go.Proofs.YtchfpiadfmnphaaDoor
namespace Go.Proofs.YtchfpiadfmnphaaDoor
open Go.RowKit
set_option linter.unusedVariables false

def foldN (n : Int) : Nat := if n < 0 then (-2 * n - 1).toNat else (2 * n).toNat
theorem I64.foldLt {n : Int} (h : I64 n) : foldN n < 2 * 128 ^ 9 := by
  have := h.bd
  unfold foldN
  split <;> omega
theorem fold_neg {n : Int} (hn : I64 n) (h : n < 0) : IntKind.u64.wrap (IntKind.u64.wrap (2 * IntKind.u64.wrap (wrap64 (-wrap64 (n + 1)))) + 1) = (foldN n : Int) := by
  have := hn.bd
  unfold foldN
  rw [if_pos h]
  simp [wrap64, IntKind.wrap, IntKind.signed, IntKind.bits]
  omega
theorem fold_pos {n : Int} (hn : I64 n) (h : ¬ n < 0) : IntKind.u64.wrap (2 * IntKind.u64.wrap n) = (foldN n : Int) := by
  have := hn.bd
  unfold foldN
  rw [if_neg h]
  simp [IntKind.wrap, IntKind.signed, IntKind.bits]
  omega

/- The bytes of a number: seven bits a byte, the lowest first. -/
def enc : Nat → Nat → List UInt8
  | 0, u => [UInt8.ofNat u]
  | f + 1, u => if u < 128 then [UInt8.ofNat u] else UInt8.ofNat (u % 128 + 128) :: enc f (u / 128)
theorem enc_last (f u : Nat) (h : u < 128) : enc f u = [UInt8.ofNat u] := by
  cases f <;> simp [enc, h]
def putS (n : Int) : ByteArray := ⟨(enc 9 (foldN n)).toArray⟩
/- What stands at the head of a round: the bytes that are out, and the number that is left. -/
def Left (u0 : Nat) (bs : List UInt8) (f u : Nat) : Prop := u < 2 * 128 ^ f ∧ bs.length + f = 9 ∧ bs ++ enc f u = enc 9 u0
theorem Left.start {u0 : Nat} (h : u0 < 2 * 128 ^ 9) : Left u0 [] 9 u0 := ⟨h, rfl, rfl⟩
theorem Left.bound {u0 f u : Nat} {bs : List UInt8} (h : Left u0 bs f u) : (u : Int) ≤ 18446744073709551615 := by
  have h1 := h.1
  have h2 : f ≤ 9 := by have := h.2.1; omega
  have h3 : 128 ^ f ≤ 128 ^ 9 := Nat.pow_le_pow_right (by omega) h2
  omega
theorem Left.step {u0 f u : Nat} {bs : List UInt8} (h : Left u0 bs f u) (hu : 128 ≤ u) : ∃ f', f = f' + 1 ∧ Left u0 (bs ++ [UInt8.ofNat (u % 128 + 128)]) f' (u / 128) := by
  obtain ⟨h1, h2, h3⟩ := h
  cases f with
  | zero => simp at h1; omega
  | succ f' =>
    refine ⟨f', rfl, ?_, by simp; omega, ?_⟩
    · rw [Nat.pow_succ] at h1; omega
    · rw [← h3]; simp [enc, show ¬ u < 128 by omega]
theorem Left.done {u0 f u : Nat} {bs : List UInt8} (h : Left u0 bs f u) (hu : u < 128) : bs ++ [UInt8.ofNat u] = enc 9 u0 := by
  rw [← h.2.2, enc_last f u hu]

end Go.Proofs.YtchfpiadfmnphaaDoor
namespace Go.Proofs.YtchfpiadfmnphaaDoor
open Go.RowKit
set_option linter.unusedVariables false

theorem enc_len (f u : Nat) : (enc f u).length ≤ f + 1 := by
  induction f generalizing u with
  | zero => simp [enc]
  | succ f ih =>
    unfold enc
    split
    · simp
    · have := ih (u / 128); simp; omega
theorem putS_size (n : Int) : (putS n).size ≤ 10 := by
  have := enc_len 9 (foldN n)
  simpa [putS, ByteArray.size] using this
end Go.Proofs.YtchfpiadfmnphaaDoor
namespace Go.Proofs.YtchfpiadfmnphaaDoor
open Go.RowKit
set_option linter.unusedVariables false

theorem I64.ofNat {k : Nat} (h : k ≤ 20000) : I64 (k : Int) := by
  unfold I64
  exact WalkArith.wf_i64 (by omega)
def putT (s : ByteArray) : ByteArray := if 20000 < s.size then ⟨#[]⟩ else putS s.size ++ s

end Go.Proofs.YtchfpiadfmnphaaDoor
namespace Go.Proofs.YtchfpiadfmnphaaDoor
open Go.RowKit
set_option linter.unusedVariables false


set_option maxRecDepth 100000 in
set_option maxHeartbeats 1000000 in
theorem specGet (s : ByteArray) (p : Int) (w : World) (hs : s.size ≤ maxLen) (hp : I64 p) :
    Calls Tryd.prog 99 #[.string s, .int .i64 p] w fun e w' => e = .returned (gv (getN s p)) ∧ Below w.heap.size w w' := by
  unfold maxLen at hs
  by_cases hbig : 20000 < s.size
  · have HR : Hid (gv (getN s p) = gv ⟨0, 0, 2⟩) := by show gv _ = _; unfold getN; rw [if_pos hbig]
    go_enter Tryd.func99, Tryd.ntmps99
    go_wp2
    exact bodyPost_ret (v := .agg #[.int .i64 0, .int .i64 0, .int .i64 2]) (by simp [results, Tryd.results99, go_sem]) rfl ⟨by rw [HR.out]; rfl, (Below.refl _ _).alloc (Nat.le_refl _) _⟩
  by_cases hneg : p < 0
  · have HR : Hid (gv (getN s p) = gv ⟨0, 0, 1⟩) := by show gv _ = _; unfold getN; rw [if_neg hbig, if_pos hneg]
    go_enter Tryd.func99, Tryd.ntmps99
    go_wp2
    exact bodyPost_ret (v := .agg #[.int .i64 0, .int .i64 0, .int .i64 1]) (by simp [results, Tryd.results99, go_sem]) rfl ⟨by rw [HR.out]; rfl, (Below.refl _ _).alloc (Nat.le_refl _) _⟩
  obtain ⟨a, rfl⟩ := Int.eq_ofNat_of_zero_le (show 0 ≤ p by omega)
  have ha : (a : Int) ≤ 9223372036854775807 := hp.bd.2
  have HR : Hid (getN s (a : Int) = scan s a 10 0 0) := by show getN _ _ = _; unfold getN; rw [if_neg hbig, if_neg hneg]; rfl
  have hst := Rd.start s a
  generalize scan s a 10 0 0 = R at *
  clear hp hneg
  go_enter Tryd.func99, Tryd.ntmps99
  go_wp2
  go_loop [5, 6] (fun x i => ∃ k u : Nat, i = .int .i64 k ∧ x = .int .u64 u ∧ Rd s a R k u) (fun _ i => 10 - (intOf i).toNat)
  case atStart => exact ⟨0, 0, rfl, rfl, hst⟩
  case round =>
    obtain ⟨k, u, rfl, rfl, hrd⟩ := hrel
    have hk := hrd.1
    have HRd : Hid (Rd s a R k u) := hrd
    clear hrd hst
    by_cases hlt : a + k < s.size
    · obtain ⟨c, hc⟩ : ∃ c : Nat, s[a + k].toNat = c := ⟨_, rfl⟩
      have hc1 : c ≤ 255 := by have := s[a + k].toNat_lt; omega
      have hc2 : (s[a + k].toNat : Int) = (c : Int) := by omega
      have HC : Hid (s[a + k].toNat = c) := hc
      clear hc
      by_cases hbad : 9 ≤ k ∧ 1 < c
      · obtain ⟨hb1, hb2⟩ := hbad
        have HF : Hid (gv (getN s a) = gv ⟨0, 0, 3⟩) := by show gv _ = _; rw [HR.out, HRd.out.last hlt HC.out (by omega), fin_bad (by omega)]
        clear HR HRd
        go_wp2
        exact bodyPost_ret (v := .agg #[.int .i64 0, .int .i64 0, .int .i64 3]) (by simp [results, Tryd.results99, go_sem]) rfl ⟨by rw [HF.out]; rfl, (Below.refl _ _).alloc (Nat.le_refl _) _⟩
      by_cases h128 : 128 ≤ c
      · have h9 : k < 9 := by omega
        obtain ⟨z, hz⟩ : ∃ z : Nat, (c - 128) * 128 ^ k = z := ⟨_, rfl⟩
        have hsum := HRd.out.sum (d := c - 128) (by omega) (by omega)
        have e1 : IntKind.u64.wrap ((c : Int) % 128 * 2 ^ (7 * k)) = (z : Int) := by
          rw [show (c : Int) % 128 = ((c - 128 : Nat) : Int) by omega, shl_z (by omega), hz]
        have HRd2 : Hid (Rd s a R (k + 1) (u + z)) := by show Rd _ _ _ _ _; rw [← hz]; exact HRd.out.more hlt HC.out h128 (by omega)
        rw [hz] at hsum
        have hsum2 : (u : Int) + (z : Int) ≤ 18446744073709551615 := by omega
        clear hz hsum HRd
        go_wp2
        go_round
        case rel => exact ⟨k + 1, u + z, by go_num, by go_num, HRd2.out⟩
        case measure => simp [intOf]; omega
      have h9c : k = 9 → c ≤ 1 := by omega
      obtain ⟨z, hz⟩ : ∃ z : Nat, c * 128 ^ k = z := ⟨_, rfl⟩
      have hsum := HRd.out.sum (d := c) (by omega) h9c
      have e1 : IntKind.u64.wrap ((c : Int) % 128 * 2 ^ (7 * k)) = (z : Int) := by
        rw [show (c : Int) % 128 = (c : Int) by omega, shl_z (by omega), hz]
      rw [hz] at hsum
      have hsum2 : (u : Int) + (z : Int) ≤ 18446744073709551615 := by omega
      by_cases hz0 : c = 0 ∧ 0 < k
      · have HF : Hid (gv (getN s a) = gv ⟨0, 0, 3⟩) := by show gv _ = _; rw [HR.out, HRd.out.last hlt HC.out (by omega), fin_bad (by omega)]
        have hc0 : c ≤ 0 := by omega
        have hk0 : 0 < k := hz0.2
        clear HR HRd hz hsum hz0
        by_cases hk9 : 9 ≤ k
        all_goals
          clear h9c
          go_wp2
          exact bodyPost_ret (v := .agg #[.int .i64 0, .int .i64 0, .int .i64 3]) (by simp [results, Tryd.results99, go_sem]) rfl ⟨by rw [HF.out]; rfl, (Below.refl _ _).alloc (Nat.le_refl _) _⟩
      · have HF : Hid (getN s a = ⟨unf (u + z), ((a + k + 1 : Nat) : Int), 0⟩) := by show getN _ _ = _; rw [HR.out, HRd.out.last hlt HC.out (by omega), fin_good (by omega), hz]
        clear HR HRd hz hsum
        have hways : (9 ≤ k ∧ 0 < c ∧ c ≤ 1 ∧ 0 < k) ∨ (k < 9 ∧ 0 < c) ∨ (k < 9 ∧ c ≤ 0 ∧ k ≤ 0) := by omega
        clear hbad h9c hz0
        rcases Nat.mod_two_eq_zero_or_one (u + z) with hpar | hpar
        · have HU := unf_even hpar
          have HU2 : Hid (unf (u + z) = ((u : Int) + (z : Int)) / 2) := by show unf _ = _; rw [HU]; omega
          have hpi : ((u : Int) + (z : Int)) % 2 < 1 := by omega
          clear HU hpar
          rcases hways with ⟨hw1, hw2, hw3, hw4⟩ | ⟨hw1, hw2⟩ | ⟨hw1, hw2, hw3⟩
          all_goals
            try have hb9 : ((k : Int) == 9) = true := beq_iff_eq.2 (by omega)
            go_wp2
            exact bodyPost_ret (v := .agg #[.int .i64 (((u : Int) + (z : Int)) / 2), .int .i64 ((a : Int) + (k : Int) + 1), .int .i64 0]) (by simp [results, Tryd.results99, go_sem]) rfl ⟨by rw [HF.out]; exact gv_eq HU2.out.symm (by show _ = ((a + k + 1 : Nat) : Int); omega) rfl, (Below.refl _ _).alloc (Nat.le_refl _) _⟩
        · have HU := unf_odd hpar
          have HU2 : Hid (unf (u + z) = -(((u : Int) + (z : Int)) / 2) - 1) := by show unf _ = _; rw [HU]; omega
          have hpi : 1 ≤ ((u : Int) + (z : Int)) % 2 := by omega
          clear HU hpar
          rcases hways with ⟨hw1, hw2, hw3, hw4⟩ | ⟨hw1, hw2⟩ | ⟨hw1, hw2, hw3⟩
          all_goals
            try have hb9 : ((k : Int) == 9) = true := beq_iff_eq.2 (by omega)
            go_wp2
            exact bodyPost_ret (v := .agg #[.int .i64 (-(((u : Int) + (z : Int)) / 2) - 1), .int .i64 ((a : Int) + (k : Int) + 1), .int .i64 0]) (by simp [results, Tryd.results99, go_sem]) rfl ⟨by rw [HF.out]; exact gv_eq HU2.out.symm (by show _ = ((a + k + 1 : Nat) : Int); omega) rfl, (Below.refl _ _).alloc (Nat.le_refl _) _⟩
    · have HF : Hid (gv (getN s a) = gv ⟨0, 0, 4⟩) := by show gv _ = _; rw [HR.out, HRd.out.short hlt]
      clear HR HRd
      go_wp2
      exact bodyPost_ret (v := .agg #[.int .i64 0, .int .i64 0, .int .i64 4]) (by simp [results, Tryd.results99, go_sem]) rfl ⟨by rw [HF.out]; rfl, (Below.refl _ _).alloc (Nat.le_refl _) _⟩
end Go.Proofs.YtchfpiadfmnphaaDoor
