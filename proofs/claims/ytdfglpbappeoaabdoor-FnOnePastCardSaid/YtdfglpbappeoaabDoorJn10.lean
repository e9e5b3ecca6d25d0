/- Numbers that an int64 holds. Trees of hashes, in numbers and lists alone: what leads from a leaf, or from a beginning, to the root. -/
import Derived.Test.YtdfglpbappeoaabDoorRows
import Derived.WalkKit
import Derived.ProofKit
namespace Go.Proofs.YtdfglpbappeoaabDoor
open Go.RowKit
set_option linter.unusedVariables false

def I64 (n : Int) : Prop := (Lit.int .i64 n).wf = true
theorem I64.bd {n : Int} (h : I64 n) : -9223372036854775808 ≤ n ∧ n ≤ 9223372036854775807 := by
  unfold I64 at h
  simpa [Lit.wf, IntKind.min, IntKind.max, IntKind.signed, IntKind.bits] using h
end Go.Proofs.YtdfglpbappeoaabDoor
namespace Go.Proofs.YtdfglpbappeoaabDoor.Mer
set_option linter.unusedVariables false

/- The greatest power of 2 below n. -/
def half (n : Nat) : Nat := 2 ^ Nat.log2 (n - 1)
theorem half_lt {n : Nat} (h : 2 ≤ n) : half n < n := by
  have := Nat.log2_self_le (n := n - 1) (by omega)
  unfold half; omega
theorem half_pos (n : Nat) : 1 ≤ half n := Nat.one_le_two_pow
theorem le_half {n : Nat} (h : 2 ≤ n) : n ≤ 2 * half n := by
  have := Nat.lt_log2_self (n := n - 1)
  unfold half
  rw [Nat.pow_succ] at this
  omega
theorem half_uniq {n a : Nat} (h1 : 2 ^ a < n) (h2 : n ≤ 2 * 2 ^ a) : half n = 2 ^ a := by
  unfold half
  congr 1
  have h0 : n - 1 ≠ 0 := by have := Nat.one_le_two_pow (n := a); omega
  have e1 : Nat.log2 (n - 1) < a + 1 := (Nat.log2_lt h0).2 (by rw [Nat.pow_succ]; omega)
  have e2 : ¬ Nat.log2 (n - 1) < a := fun h => by have := (Nat.log2_lt h0).1 h; omega
  omega
theorem half_two (a : Nat) : half (2 ^ (a + 1)) = 2 ^ a := by
  have h := Nat.one_le_two_pow (n := a)
  refine half_uniq ?_ ?_ <;> rw [Nat.pow_succ] <;> omega

/- The root of hashes, the path of a place, the proof of a beginning (its first part always told). -/
def rtF {B : Type} (nd : B → B → B) (e : B) : Nat → List B → B
  | 0, _ => e
  | n + 1, l => if l.length = 0 then e else if l.length = 1 then l.headD e else nd (rtF nd e n (l.take (half l.length))) (rtF nd e n (l.drop (half l.length)))
def rt {B : Type} (nd : B → B → B) (e : B) (l : List B) : B := rtF nd e l.length l
theorem rtF_eq {B : Type} (nd : B → B → B) (e : B) : ∀ (n m : Nat) (l : List B), l.length ≤ n → l.length ≤ m → rtF nd e n l = rtF nd e m l
  | 0, m, l, h1, h2 => by
    have : l = [] := List.length_eq_zero_iff.1 (by omega)
    subst this
    cases m <;> simp [rtF]
  | n + 1, 0, l, h1, h2 => by
    have : l = [] := List.length_eq_zero_iff.1 (by omega)
    subst this
    simp [rtF]
  | n + 1, m + 1, l, h1, h2 => by
    rw [rtF, rtF]
    by_cases h0 : l.length = 0
    · rw [if_pos h0, if_pos h0]
    rw [if_neg h0, if_neg h0]
    by_cases h3 : l.length = 1
    · rw [if_pos h3, if_pos h3]
    rw [if_neg h3, if_neg h3]
    have hl := half_lt (n := l.length) (by omega)
    have hp := half_pos l.length
    rw [rtF_eq nd e n m (l.take (half l.length)) (by rw [List.length_take]; omega) (by rw [List.length_take]; omega), rtF_eq nd e n m (l.drop (half l.length)) (by rw [List.length_drop]; omega) (by rw [List.length_drop]; omega)]
theorem rt_nil {B : Type} (nd : B → B → B) (e : B) : rt nd e [] = e := rfl
theorem rt_one {B : Type} (nd : B → B → B) (e x : B) : rt nd e [x] = x := rfl
theorem rt_two {B : Type} (nd : B → B → B) (e : B) {l : List B} (h : 2 ≤ l.length) : rt nd e l = nd (rt nd e (l.take (half l.length))) (rt nd e (l.drop (half l.length))) := by
  have hl := half_lt h
  have hp := half_pos l.length
  unfold rt
  obtain ⟨n, hn⟩ : ∃ n, l.length = n + 1 := ⟨l.length - 1, by omega⟩
  conv => lhs; rw [hn, rtF]
  rw [if_neg (by omega), if_neg (by omega)]
  rw [rtF_eq nd e n (l.take (half l.length)).length _ (by rw [List.length_take]; omega) (Nat.le_refl _), rtF_eq nd e n (l.drop (half l.length)).length _ (by rw [List.length_drop]; omega) (Nat.le_refl _)]

def pthF {B : Type} (nd : B → B → B) (e : B) : Nat → List B → Nat → List B
  | 0, _, _ => []
  | n + 1, l, i => if l.length ≤ 1 then [] else if i < half l.length then pthF nd e n (l.take (half l.length)) i ++ [rt nd e (l.drop (half l.length))] else pthF nd e n (l.drop (half l.length)) (i - half l.length) ++ [rt nd e (l.take (half l.length))]
def pth {B : Type} (nd : B → B → B) (e : B) (l : List B) (i : Nat) : List B := pthF nd e l.length l i
theorem pthF_eq {B : Type} (nd : B → B → B) (e : B) : ∀ (n m : Nat) (l : List B) (i : Nat), l.length ≤ n → l.length ≤ m → pthF nd e n l i = pthF nd e m l i
  | 0, m, l, i, h1, h2 => by
    cases m with
    | zero => rfl
    | succ m => rw [pthF, pthF, if_pos (by omega)]
  | n + 1, 0, l, i, h1, h2 => by rw [pthF, pthF, if_pos (by omega)]
  | n + 1, m + 1, l, i, h1, h2 => by
    rw [pthF, pthF]
    by_cases h0 : l.length ≤ 1
    · rw [if_pos h0, if_pos h0]
    rw [if_neg h0, if_neg h0]
    have hl := half_lt (n := l.length) (by omega)
    have hp := half_pos l.length
    rw [pthF_eq nd e n m (l.take (half l.length)) i (by rw [List.length_take]; omega) (by rw [List.length_take]; omega), pthF_eq nd e n m (l.drop (half l.length)) _ (by rw [List.length_drop]; omega) (by rw [List.length_drop]; omega)]
theorem pth_one {B : Type} (nd : B → B → B) (e : B) {l : List B} (h : l.length ≤ 1) (i : Nat) : pth nd e l i = [] := by
  unfold pth
  cases hn : l.length with
  | zero => rfl
  | succ n => rw [pthF, if_pos h]
theorem pth_lo {B : Type} (nd : B → B → B) (e : B) {l : List B} {i : Nat} (h : 2 ≤ l.length) (hi : i < half l.length) : pth nd e l i = pth nd e (l.take (half l.length)) i ++ [rt nd e (l.drop (half l.length))] := by
  have hl := half_lt h
  have hp := half_pos l.length
  unfold pth
  obtain ⟨n, hn⟩ : ∃ n, l.length = n + 1 := ⟨l.length - 1, by omega⟩
  conv => lhs; rw [hn, pthF]
  rw [if_neg (by omega), if_pos hi]
  rw [pthF_eq nd e n (l.take (half l.length)).length _ _ (by rw [List.length_take]; omega) (Nat.le_refl _)]
theorem pth_hi {B : Type} (nd : B → B → B) (e : B) {l : List B} {i : Nat} (h : 2 ≤ l.length) (hi : half l.length ≤ i) : pth nd e l i = pth nd e (l.drop (half l.length)) (i - half l.length) ++ [rt nd e (l.take (half l.length))] := by
  have hl := half_lt h
  have hp := half_pos l.length
  unfold pth
  obtain ⟨n, hn⟩ : ∃ n, l.length = n + 1 := ⟨l.length - 1, by omega⟩
  conv => lhs; rw [hn, pthF]
  rw [if_neg (by omega), if_neg (by omega)]
  rw [pthF_eq nd e n (l.drop (half l.length)).length _ _ (by rw [List.length_drop]; omega) (Nat.le_refl _)]

/- How a check goes up: halved until odd; to the right of its neighbour or not; the next place. -/
def down : Nat → Nat → Nat → Nat × Nat
  | 0, f, s => (f, s)
  | n + 1, f, s => if f % 2 = 0 ∧ f ≠ 0 then down n (f / 2) (s / 2) else (f, s)
def rgt (f s : Nat) : Bool := f % 2 == 1 || f == s
def nx (f s : Nat) : Nat × Nat := if rgt f s then ((down f f s).1 / 2, (down f f s).2 / 2) else (f / 2, s / 2)
theorem down_odd {n f s : Nat} (h : f % 2 = 1) : down n f s = (f, s) := by
  cases n with
  | zero => rfl
  | succ n => rw [down, if_neg (by omega)]
theorem down_pow {u : Nat} (hu : u % 2 = 1) : ∀ (j n : Nat), j ≤ n → down n (2 ^ j * u) (2 ^ j * u) = (u, u)
  | 0, n, _ => by rw [Nat.pow_zero, Nat.one_mul]; exact down_odd hu
  | j + 1, 0, h => by omega
  | j + 1, n + 1, h => by
    have hp := Nat.one_le_two_pow (n := j)
    have e : 2 ^ (j + 1) * u = 2 * (2 ^ j * u) := by rw [Nat.pow_succ, Nat.mul_comm (2 ^ j) 2, Nat.mul_assoc]
    have h1 : 0 < 2 ^ j * u := Nat.mul_pos hp (by omega)
    rw [e, down, if_pos ⟨by omega, by omega⟩, show 2 * (2 ^ j * u) / 2 = 2 ^ j * u by omega]
    exact down_pow hu j n (by omega)
theorem nx_even {q t : Nat} (h : 2 * q < t) : rgt (2 * q) t = false ∧ nx (2 * q) t = (q, t / 2) := by
  have h1 : rgt (2 * q) t = false := by
    unfold rgt
    rw [beq_eq_false_iff_ne.2 (by omega), beq_eq_false_iff_ne.2 (by omega)]
    rfl
  refine ⟨h1, ?_⟩
  unfold nx
  rw [h1, if_neg (by decide), show 2 * q / 2 = q by omega]
theorem nx_odd {q t : Nat} : rgt (2 * q + 1) t = true ∧ nx (2 * q + 1) t = (q, t / 2) := by
  have h1 : rgt (2 * q + 1) t = true := by
    unfold rgt
    rw [beq_iff_eq.2 (show (2 * q + 1) % 2 = 1 by omega)]
    rfl
  refine ⟨h1, ?_⟩
  unfold nx
  rw [h1, if_pos rfl, down_odd (by omega), show (2 * q + 1) / 2 = q by omega]
theorem nx_same {v j : Nat} : rgt (2 ^ j * (2 * v + 1)) (2 ^ j * (2 * v + 1)) = true ∧ nx (2 ^ j * (2 * v + 1)) (2 ^ j * (2 * v + 1)) = (v, v) := by
  have h1 : rgt (2 ^ j * (2 * v + 1)) (2 ^ j * (2 * v + 1)) = true := by unfold rgt; simp
  refine ⟨h1, ?_⟩
  have hj : j ≤ 2 ^ j * (2 * v + 1) := by
    have a1 : j < 2 ^ j := Nat.lt_two_pow_self
    have a2 : 2 ^ j * 1 ≤ 2 ^ j * (2 * v + 1) := Nat.mul_le_mul_left _ (by omega)
    omega
  unfold nx
  rw [h1, if_pos rfl, down_pow (by omega) j _ hj, show (2 * v + 1) / 2 = v by omega]

def goP : Nat → Nat → Nat → Nat × Nat
  | 0, f, s => (f, s)
  | n + 1, f, s => goP n (nx f s).1 (nx f s).2
def okN : Nat → Nat → Nat → Bool
  | 0, _, _ => true
  | n + 1, f, s => s != 0 && okN n (nx f s).1 (nx f s).2
def goB {B : Type} (nd : B → B → B) : List B → Nat → Nat → B → B
  | [], _, _, b => b
  | p :: ps, f, s, b => goB nd ps (nx f s).1 (nx f s).2 (if rgt f s then nd p b else nd b p)
def goA {B : Type} (nd : B → B → B) : List B → Nat → Nat → B → B
  | [], _, _, a => a
  | p :: ps, f, s, a => goA nd ps (nx f s).1 (nx f s).2 (if rgt f s then nd p a else a)
def way {B : Type} (nd : B → B → B) : List B → Nat → Nat → B → List (B × B)
  | [], _, _, _ => []
  | p :: ps, f, s, b => (if rgt f s then (p, b) else (b, p)) :: way nd ps (nx f s).1 (nx f s).2 (if rgt f s then nd p b else nd b p)
theorem goP_add : ∀ (n m f s : Nat), goP (n + m) f s = goP m (goP n f s).1 (goP n f s).2
  | 0, m, f, s => by rw [Nat.zero_add]; rfl
  | n + 1, m, f, s => by
    rw [show n + 1 + m = (n + m) + 1 by omega, goP, goP_add n m, goP]
theorem okN_add : ∀ (n m f s : Nat), okN (n + m) f s = (okN n f s && okN m (goP n f s).1 (goP n f s).2)
  | 0, m, f, s => by rw [Nat.zero_add]; simp [okN, goP]
  | n + 1, m, f, s => by
    rw [show n + 1 + m = (n + m) + 1 by omega, okN, okN_add n m, okN, goP, Bool.and_assoc]
theorem goB_append {B : Type} (nd : B → B → B) : ∀ (xs ys : List B) (f s : Nat) (b : B), goB nd (xs ++ ys) f s b = goB nd ys (goP xs.length f s).1 (goP xs.length f s).2 (goB nd xs f s b)
  | [], ys, f, s, b => rfl
  | x :: xs, ys, f, s, b => by rw [List.cons_append, goB, goB_append nd xs ys, goB, List.length_cons, goP]
theorem goA_append {B : Type} (nd : B → B → B) : ∀ (xs ys : List B) (f s : Nat) (b : B), goA nd (xs ++ ys) f s b = goA nd ys (goP xs.length f s).1 (goP xs.length f s).2 (goA nd xs f s b)
  | [], ys, f, s, b => rfl
  | x :: xs, ys, f, s, b => by rw [List.cons_append, goA, goA_append nd xs ys, goA, List.length_cons, goP]
theorem way_append {B : Type} (nd : B → B → B) : ∀ (xs ys : List B) (f s : Nat) (b : B), way nd (xs ++ ys) f s b = way nd xs f s b ++ way nd ys (goP xs.length f s).1 (goP xs.length f s).2 (goB nd xs f s b)
  | [], ys, f, s, b => rfl
  | x :: xs, ys, f, s, b => by rw [List.cons_append, way, way_append nd xs ys, way, List.length_cons, goP, goB, List.cons_append]

/- It leads from one place and hash to another. -/
structure Lead {B : Type} (nd : B → B → B) (ps : List B) (f s : Nat) (b : B) (f' s' : Nat) (b' : B) : Prop where
  pos : goP ps.length f s = (f', s')
  ok : okN ps.length f s = true
  fin : goB nd ps f s b = b'
theorem Lead.nil {B : Type} (nd : B → B → B) (f s : Nat) (b : B) : Lead nd [] f s b f s b := ⟨rfl, rfl, rfl⟩
theorem Lead.snoc {B : Type} {nd : B → B → B} {ps : List B} {f s f' s' : Nat} {b b' : B} (h : Lead nd ps f s b f' s' b') (p : B) (hs : s' ≠ 0) : Lead nd (ps ++ [p]) f s b (nx f' s').1 (nx f' s').2 (if rgt f' s' then nd p b' else nd b' p) := by
  refine ⟨?_, ?_, ?_⟩
  · rw [List.length_append, goP_add, h.pos]; rfl
  · rw [List.length_append, okN_add, h.ok, h.pos]
    simp [okN, hs]
  · rw [goB_append, h.pos, h.fin]; rfl
theorem getD_take {B : Type} (l : List B) (e : B) {i k : Nat} (h : i < k) : (l.take k).getD i e = l.getD i e := by
  rw [List.getD_eq_getElem?_getD, List.getD_eq_getElem?_getD, List.getElem?_take, if_pos h]
theorem getD_drop {B : Type} (l : List B) (e : B) {i k : Nat} (h : k ≤ i) : (l.drop k).getD (i - k) e = l.getD i e := by
  rw [List.getD_eq_getElem?_getD, List.getD_eq_getElem?_getD, List.getElem?_drop, show k + (i - k) = i by omega]

/- A whole part of the tree: from one of its leaves to its root. -/
theorem full_path {B : Type} (nd : B → B → B) (e : B) : ∀ (h : Nat) (l : List B) (i q s : Nat), l.length = 2 ^ h → i < 2 ^ h → q * 2 ^ h + 2 ^ h ≤ s + 1 →
    Lead nd (pth nd e l i) (q * 2 ^ h + i) s (l.getD i e) q (s / 2 ^ h) (rt nd e l)
  | 0, l, i, q, s, hl, hi, hs => by
    rw [Nat.pow_zero] at *
    obtain rfl : i = 0 := by omega
    rw [pth_one nd e (by omega), Nat.mul_one, Nat.add_zero, Nat.div_one]
    match l, hl with
    | [x], _ => exact Lead.nil nd q s x
  | h + 1, l, i, q, s, hl, hi, hs => by
    have hp := Nat.one_le_two_pow (n := h)
    have e2 : 2 ^ (h + 1) = 2 * 2 ^ h := by rw [Nat.pow_succ, Nat.mul_comm]
    have hh : half l.length = 2 ^ h := by rw [hl]; exact half_two h
    have hl2 : 2 ≤ l.length := by omega
    have l1 : (l.take (2 ^ h)).length = 2 ^ h := by rw [List.length_take]; omega
    have l2 : (l.drop (2 ^ h)).length = 2 ^ h := by rw [List.length_drop]; omega
    have eq : q * 2 ^ (h + 1) = 2 * q * 2 ^ h := by rw [e2, Nat.mul_comm 2 q, Nat.mul_assoc]
    have ed : s / 2 ^ (h + 1) = s / 2 ^ h / 2 := by rw [Nat.div_div_eq_div_mul, Nat.pow_succ]
    have ht : 2 * q + 1 ≤ s / 2 ^ h := (Nat.le_div_iff_mul_le (by omega)).2 (by rw [Nat.add_mul]; omega)
    rw [rt_two nd e hl2, hh]
    by_cases hc : i < 2 ^ h
    · rw [pth_lo nd e hl2 (by omega), hh, eq, ed]
      have ih := full_path nd e h (l.take (2 ^ h)) i (2 * q) s l1 hc (by omega)
      have := ih.snoc (rt nd e (l.drop (2 ^ h))) (by omega)
      obtain ⟨r1, r2⟩ := nx_even (q := q) (t := s / 2 ^ h) (by omega)
      rw [r1, r2, if_neg (by decide), getD_take l e hc] at this
      exact this
    · rw [pth_hi nd e hl2 (by omega), hh, ed]
      have ih := full_path nd e h (l.drop (2 ^ h)) (i - 2 ^ h) (2 * q + 1) s l2 (by omega) (by rw [Nat.add_mul]; omega)
      have := ih.snoc (rt nd e (l.take (2 ^ h))) (by omega)
      obtain ⟨r1, r2⟩ := nx_odd (q := q) (t := s / 2 ^ h)
      rw [r1, r2, if_pos rfl, getD_drop l e (by omega), show (2 * q + 1) * 2 ^ h + (i - 2 ^ h) = q * 2 ^ (h + 1) + i by rw [Nat.add_mul, eq]; omega] at this
      exact this
/- The last part of the tree: from one of its leaves to its root. -/
theorem last_path {B : Type} (nd : B → B → B) (e : B) : ∀ (n : Nat) (l : List B) (i q H : Nat), l.length ≤ n → 1 ≤ l.length → l.length ≤ 2 ^ H → i < l.length →
    ∃ c, c ≤ H ∧ Lead nd (pth nd e l i) (q * 2 ^ H + i) (q * 2 ^ H + l.length - 1) (l.getD i e) (q * 2 ^ (H - c)) (q * 2 ^ (H - c)) (rt nd e l)
  | 0, l, i, q, H, h0, h1, h2, h3 => by omega
  | n + 1, l, i, q, H, h0, h1, h2, h3 => by
    by_cases hone : l.length = 1
    · refine ⟨0, Nat.zero_le _, ?_⟩
      obtain rfl : i = 0 := by omega
      rw [pth_one nd e (by omega), hone, Nat.add_sub_cancel, Nat.add_zero, Nat.sub_zero]
      match l, hone with
      | [x], _ => exact Lead.nil nd _ _ x
    have hl2 : 2 ≤ l.length := by omega
    have hlt := half_lt hl2
    have hle := le_half hl2
    obtain ⟨a, ha⟩ : ∃ a, half l.length = 2 ^ a := ⟨_, rfl⟩
    rw [ha] at hlt hle
    have haH : a < H := (Nat.pow_lt_pow_iff_right (by omega : 1 < 2)).1 (by omega : 2 ^ a < 2 ^ H)
    have hp := Nat.one_le_two_pow (n := a)
    obtain ⟨v, hv⟩ : ∃ v, q * 2 ^ (H - (a + 1)) = v := ⟨_, rfl⟩
    have eo : q * 2 ^ H = 2 * v * 2 ^ a := by
      rw [← hv, show 2 ^ H = 2 ^ (H - (a + 1)) * (2 * 2 ^ a) by rw [← Nat.pow_succ', ← Nat.pow_add]; congr 1; omega]
      rw [Nat.mul_comm 2 (q * _), ← Nat.mul_assoc, Nat.mul_assoc (q * _) 2]
    refine ⟨a + 1, by omega, ?_⟩
    rw [hv, eo, rt_two nd e hl2, ha]
    by_cases hc : i < 2 ^ a
    · rw [pth_lo nd e hl2 (by omega), ha]
      have ih := full_path nd e a (l.take (2 ^ a)) i (2 * v) (2 * v * 2 ^ a + l.length - 1) (by rw [List.length_take]; omega) hc (by omega)
      have hd : (2 * v * 2 ^ a + l.length - 1) / 2 ^ a = 2 * v + 1 := by
        refine Nat.div_eq_of_lt_le ?_ ?_
        · rw [Nat.add_mul]; omega
        · rw [Nat.add_mul, Nat.add_mul]; omega
      rw [hd] at ih
      have := ih.snoc (rt nd e (l.drop (2 ^ a))) (by omega)
      obtain ⟨r1, r2⟩ := nx_even (q := v) (t := 2 * v + 1) (by omega)
      rw [r1, r2, if_neg (by decide), getD_take l e hc, show (2 * v + 1) / 2 = v by omega] at this
      exact this
    · rw [pth_hi nd e hl2 (by omega), ha]
      have hdl : (l.drop (2 ^ a)).length = l.length - 2 ^ a := List.length_drop
      obtain ⟨c, hcH, ih⟩ := last_path nd e n (l.drop (2 ^ a)) (i - 2 ^ a) (2 * v + 1) a (by omega) (by omega) (by omega) (by omega)
      rw [show (2 * v + 1) * 2 ^ (a - c) = 2 ^ (a - c) * (2 * v + 1) from Nat.mul_comm _ _] at ih
      have := ih.snoc (rt nd e (l.take (2 ^ a))) (Nat.mul_ne_zero (by have := Nat.one_le_two_pow (n := a - c); omega) (by omega))
      obtain ⟨r1, r2⟩ := nx_same (v := v) (j := a - c)
      rw [r1, r2, if_pos rfl, getD_drop l e (by omega), hdl] at this
      rw [show (2 * v + 1) * 2 ^ a + (i - 2 ^ a) = 2 * v * 2 ^ a + i by rw [Nat.add_mul]; omega, show (2 * v + 1) * 2 ^ a + (l.length - 2 ^ a) - 1 = 2 * v * 2 ^ a + l.length - 1 by rw [Nat.add_mul]; omega] at this
      exact this
/- Each leaf is shown to be in its tree. -/
theorem leaf_in {B : Type} (nd : B → B → B) (e : B) (l : List B) (i : Nat) (h : i < l.length) : Lead nd (pth nd e l i) i (l.length - 1) (l.getD i e) 0 0 (rt nd e l) := by
  obtain ⟨c, _, hh⟩ := last_path nd e l.length l i 0 l.length (Nat.le_refl _) (by omega) (Nat.le_of_lt Nat.lt_two_pow_self) h
  rw [Nat.zero_mul, Nat.zero_mul, Nat.zero_add, Nat.zero_add] at hh
  exact hh

/- Two ways to one root, at one place: the same hashes, or two unlike pairs of one hash. -/
def Clash {B : Type} (nd : B → B → B) (L : List (B × B)) : Prop := ∃ x ∈ L, ∃ y ∈ L, x ≠ y ∧ nd x.1 x.2 = nd y.1 y.2
theorem Clash.mono {B : Type} {nd : B → B → B} {L M : List (B × B)} (h : Clash nd L) (hs : ∀ x ∈ L, x ∈ M) : Clash nd M := by
  obtain ⟨x, hx, y, hy, hne, he⟩ := h
  exact ⟨x, hs x hx, y, hs y hy, hne, he⟩
theorem two_ways {B : Type} (nd : B → B → B) : ∀ (ps qs : List B) (f s : Nat) (b c : B), okN ps.length f s = true → (goP ps.length f s).2 = 0 → okN qs.length f s = true → (goP qs.length f s).2 = 0 → goB nd ps f s b = goB nd qs f s c →
    (b = c ∧ ps = qs) ∨ Clash nd (way nd ps f s b ++ way nd qs f s c)
  | [], [], f, s, b, c, _, _, _, _, h => Or.inl ⟨h, rfl⟩
  | [], q :: qs, f, s, b, c, _, h2, h3, _, _ => by
    simp only [List.length_nil, goP] at h2
    simp [okN, h2] at h3
  | p :: ps, [], f, s, b, c, h1, _, _, h4, _ => by
    simp only [List.length_nil, goP] at h4
    simp [okN, h4] at h1
  | p :: ps, q :: qs, f, s, b, c, h1, h2, h3, h4, h => by
    rw [List.length_cons, okN, Bool.and_eq_true] at h1 h3
    rw [List.length_cons, goP] at h2 h4
    rw [goB, goB] at h
    have ih := two_ways nd ps qs _ _ _ _ h1.2 h2 h3.2 h4 h
    rw [way, way]
    rcases ih with ⟨e1, e2⟩ | hc
    · by_cases hr : rgt f s = true
      · simp only [if_pos hr] at e1 ⊢
        by_cases hx : (p, b) = (q, c)
        · injection hx with x1 x2
          exact Or.inl ⟨x2, by rw [x1, e2]⟩
        · exact Or.inr ⟨(p, b), by simp, (q, c), by simp, hx, e1⟩
      · simp only [if_neg hr] at e1 ⊢
        by_cases hx : (b, p) = (c, q)
        · injection hx with x1 x2
          exact Or.inl ⟨x1, by rw [x2, e2]⟩
        · exact Or.inr ⟨(b, p), by simp, (c, q), by simp, hx, e1⟩
    · refine Or.inr (hc.mono fun x hx => ?_)
      rcases List.mem_append.1 hx with h' | h'
      · exact List.mem_append.2 (Or.inl (List.mem_cons_of_mem _ h'))
      · exact List.mem_append.2 (Or.inr (List.mem_cons_of_mem _ h'))

/- The proof that the first k are the beginning; kn: that all of them together are known. -/
def prF {B : Type} (nd : B → B → B) (e : B) : Nat → List B → Nat → Bool → List B
  | 0, _, _, _ => []
  | n + 1, l, k, kn => if k = l.length then (if kn then [] else [rt nd e l]) else if k ≤ half l.length then prF nd e n (l.take (half l.length)) k kn ++ [rt nd e (l.drop (half l.length))] else prF nd e n (l.drop (half l.length)) (k - half l.length) false ++ [rt nd e (l.take (half l.length))]
def pr {B : Type} (nd : B → B → B) (e : B) (l : List B) (k : Nat) (kn : Bool) : List B := prF nd e l.length l k kn
theorem prF_eq {B : Type} (nd : B → B → B) (e : B) : ∀ (n m : Nat) (l : List B) (k : Nat) (kn : Bool), 1 ≤ k → k ≤ l.length → l.length ≤ n → l.length ≤ m → prF nd e n l k kn = prF nd e m l k kn
  | 0, m, l, k, kn, h1, h2, h3, h4 => by omega
  | n + 1, 0, l, k, kn, h1, h2, h3, h4 => by omega
  | n + 1, m + 1, l, k, kn, h1, h2, h3, h4 => by
    rw [prF, prF]
    by_cases h0 : k = l.length
    · rw [if_pos h0, if_pos h0]
    rw [if_neg h0, if_neg h0]
    have hl := half_lt (n := l.length) (by omega)
    have hp := half_pos l.length
    by_cases hk : k ≤ half l.length
    · rw [if_pos hk, if_pos hk, prF_eq nd e n m (l.take (half l.length)) k kn h1 (by rw [List.length_take]; omega) (by rw [List.length_take]; omega) (by rw [List.length_take]; omega)]
    · rw [if_neg hk, if_neg hk, prF_eq nd e n m (l.drop (half l.length)) _ false (by omega) (by rw [List.length_drop]; omega) (by rw [List.length_drop]; omega) (by rw [List.length_drop]; omega)]
theorem pr_all {B : Type} (nd : B → B → B) (e : B) {l : List B} (h : 1 ≤ l.length) (kn : Bool) : pr nd e l l.length kn = if kn then [] else [rt nd e l] := by
  unfold pr
  obtain ⟨n, hn⟩ : ∃ n, l.length = n + 1 := ⟨l.length - 1, by omega⟩
  conv => lhs; rw [hn, prF]
  rw [if_pos hn.symm]
theorem pr_lo {B : Type} (nd : B → B → B) (e : B) {l : List B} {k : Nat} (h1 : 1 ≤ k) (h2 : k < l.length) (hk : k ≤ half l.length) (kn : Bool) : pr nd e l k kn = pr nd e (l.take (half l.length)) k kn ++ [rt nd e (l.drop (half l.length))] := by
  have hl := half_lt (n := l.length) (by omega)
  unfold pr
  obtain ⟨n, hn⟩ : ∃ n, l.length = n + 1 := ⟨l.length - 1, by omega⟩
  conv => lhs; rw [hn, prF]
  rw [if_neg (by omega), if_pos hk]
  rw [prF_eq nd e n (l.take (half l.length)).length _ _ _ h1 (by rw [List.length_take]; omega) (by rw [List.length_take]; omega) (Nat.le_refl _)]
theorem pr_hi {B : Type} (nd : B → B → B) (e : B) {l : List B} {k : Nat} (h1 : 1 ≤ k) (h2 : k < l.length) (hk : half l.length < k) (kn : Bool) : pr nd e l k kn = pr nd e (l.drop (half l.length)) (k - half l.length) false ++ [rt nd e (l.take (half l.length))] := by
  have hl := half_lt (n := l.length) (by omega)
  have hp := half_pos l.length
  unfold pr
  obtain ⟨n, hn⟩ : ∃ n, l.length = n + 1 := ⟨l.length - 1, by omega⟩
  conv => lhs; rw [hn, prF]
  rw [if_neg (by omega), if_neg (by omega)]
  rw [prF_eq nd e n (l.drop (half l.length)).length _ _ _ (by omega) (by rw [List.length_drop]; omega) (by rw [List.length_drop]; omega) (Nat.le_refl _)]
def IsPow (k : Nat) : Prop := ∃ j, k = 2 ^ j
theorem not_pow {a k : Nat} (h1 : 2 ^ a < k) (h2 : k < 2 * 2 ^ a) : ¬ IsPow k := by
  rintro ⟨j, rfl⟩
  rw [← Nat.pow_succ'] at h2
  have := (Nat.pow_lt_pow_iff_right (by omega : 1 < 2)).1 h1
  have := (Nat.pow_lt_pow_iff_right (by omega : 1 < 2)).1 h2
  omega
/- What is known is left out, and it is the root of the first k. -/
theorem pr_known {B : Type} (nd : B → B → B) (e : B) : ∀ (n : Nat) (l : List B) (k : Nat), l.length ≤ n → 1 ≤ k → k ≤ l.length →
    (pr nd e l k false = rt nd e (l.take k) :: pr nd e l k true ∧ (k = l.length ∨ IsPow k)) ∨ (pr nd e l k true = pr nd e l k false ∧ ¬ IsPow k)
  | 0, l, k, h0, h1, h2 => by omega
  | n + 1, l, k, h0, h1, h2 => by
    by_cases hk : k = l.length
    · subst hk
      refine Or.inl ⟨?_, Or.inl rfl⟩
      rw [pr_all nd e h1, pr_all nd e h1, List.take_of_length_le (Nat.le_refl _)]
      rfl
    have hlt := half_lt (n := l.length) (by omega)
    have hle := le_half (n := l.length) (by omega)
    obtain ⟨a, ha⟩ : ∃ a, half l.length = 2 ^ a := ⟨_, rfl⟩
    by_cases hc : k ≤ half l.length
    · rw [pr_lo nd e h1 (by omega) hc, pr_lo nd e h1 (by omega) hc]
      have l1 : (l.take (half l.length)).length = half l.length := by rw [List.length_take]; omega
      rcases pr_known nd e n (l.take (half l.length)) k (by omega) h1 (by omega) with ⟨e1, e2⟩ | ⟨e1, e2⟩
      · refine Or.inl ⟨?_, Or.inr ?_⟩
        · rw [e1, List.take_take, Nat.min_eq_left hc]; rfl
        · rcases e2 with e2 | e2
          · exact ⟨a, by rw [e2, l1, ha]⟩
          · exact e2
      · exact Or.inr ⟨by rw [e1], e2⟩
    · refine Or.inr ⟨?_, not_pow (a := a) (by omega) (by omega)⟩
      rw [pr_hi nd e h1 (by omega) (by omega), pr_hi nd e h1 (by omega) (by omega)]

/- The pairs of a tree. -/
def tpF {B : Type} (nd : B → B → B) (e : B) : Nat → List B → List (B × B)
  | 0, _ => []
  | n + 1, l => if l.length < 2 then [] else tpF nd e n (l.take (half l.length)) ++ tpF nd e n (l.drop (half l.length)) ++ [(rt nd e (l.take (half l.length)), rt nd e (l.drop (half l.length)))]
def tp {B : Type} (nd : B → B → B) (e : B) (l : List B) : List (B × B) := tpF nd e l.length l
theorem tpF_eq {B : Type} (nd : B → B → B) (e : B) : ∀ (n m : Nat) (l : List B), l.length ≤ n → l.length ≤ m → tpF nd e n l = tpF nd e m l
  | 0, m, l, h1, h2 => by
    cases m with
    | zero => rfl
    | succ m => rw [tpF, tpF, if_pos (by omega)]
  | n + 1, 0, l, h1, h2 => by rw [tpF, tpF, if_pos (by omega)]
  | n + 1, m + 1, l, h1, h2 => by
    rw [tpF, tpF]
    by_cases h0 : l.length < 2
    · rw [if_pos h0, if_pos h0]
    rw [if_neg h0, if_neg h0]
    have hl := half_lt (n := l.length) (by omega)
    have hp := half_pos l.length
    rw [tpF_eq nd e n m (l.take (half l.length)) (by rw [List.length_take]; omega) (by rw [List.length_take]; omega), tpF_eq nd e n m (l.drop (half l.length)) (by rw [List.length_drop]; omega) (by rw [List.length_drop]; omega)]
theorem tp_two {B : Type} (nd : B → B → B) (e : B) {l : List B} (h : 2 ≤ l.length) : tp nd e l = tp nd e (l.take (half l.length)) ++ tp nd e (l.drop (half l.length)) ++ [(rt nd e (l.take (half l.length)), rt nd e (l.drop (half l.length)))] := by
  have hl := half_lt h
  have hp := half_pos l.length
  unfold tp
  obtain ⟨n, hn⟩ : ∃ n, l.length = n + 1 := ⟨l.length - 1, by omega⟩
  conv => lhs; rw [hn, tpF]
  rw [if_neg (by omega)]
  rw [tpF_eq nd e n (l.take (half l.length)).length _ (by rw [List.length_take]; omega) (Nat.le_refl _), tpF_eq nd e n (l.drop (half l.length)).length _ (by rw [List.length_drop]; omega) (Nat.le_refl _)]

/- Halved as long as it is odd. -/
def strp : Nat → Nat → Nat → Nat × Nat
  | 0, f, s => (f, s)
  | n + 1, f, s => if f % 2 = 1 then strp n (f / 2) (s / 2) else (f, s)
def strip (f s : Nat) : Nat × Nat := strp f f s
theorem strp_ones {q : Nat} (hq : q % 2 = 0) : ∀ (h n s : Nat), h ≤ n → strp n (q * 2 ^ h + 2 ^ h - 1) s = (q, s / 2 ^ h)
  | 0, n, s, _ => by
    rw [Nat.pow_zero, Nat.mul_one, Nat.add_sub_cancel, Nat.div_one]
    cases n with
    | zero => rfl
    | succ n => rw [strp, if_neg (by omega)]
  | h + 1, 0, s, hn => by omega
  | h + 1, n + 1, s, hn => by
    have hp := Nat.one_le_two_pow (n := h)
    have e2 : 2 ^ (h + 1) = 2 * 2 ^ h := by rw [Nat.pow_succ, Nat.mul_comm]
    have e1 : q * 2 ^ (h + 1) + 2 ^ (h + 1) - 1 = 2 * (q * 2 ^ h + 2 ^ h - 1) + 1 := by
      rw [e2, show q * (2 * 2 ^ h) = 2 * (q * 2 ^ h) by rw [Nat.mul_left_comm]]; omega
    rw [e1, strp, if_pos (by omega), show (2 * (q * 2 ^ h + 2 ^ h - 1) + 1) / 2 = q * 2 ^ h + 2 ^ h - 1 by omega, strp_ones hq h n (s / 2) (by omega), Nat.div_div_eq_div_mul, e2]
theorem strip_ones {q h s : Nat} (hq : q % 2 = 0) : strip (q * 2 ^ h + 2 ^ h - 1) s = (q, s / 2 ^ h) := by
  have : h < 2 ^ h := Nat.lt_two_pow_self
  exact strp_ones hq h _ s (by omega)

/- The same, with the hash of the beginning beside it, and pairs that are of the tree. -/
structure LeadC {B : Type} (nd : B → B → B) (T : List (B × B)) (ps : List B) (f s : Nat) (a b : B) (f' s' : Nat) (a' b' : B) : Prop where
  lead : Lead nd ps f s b f' s' b'
  ga : goA nd ps f s a = a'
  wy : ∀ x ∈ way nd ps f s b, x ∈ T
theorem LeadC.nil {B : Type} (nd : B → B → B) (T : List (B × B)) (f s : Nat) (a b : B) : LeadC nd T [] f s a b f s a b := ⟨Lead.nil nd f s b, rfl, fun x h => by simp [way] at h⟩
theorem LeadC.mono {B : Type} {nd : B → B → B} {T U : List (B × B)} {ps : List B} {f s f' s' : Nat} {a b a' b' : B} (h : LeadC nd T ps f s a b f' s' a' b') (hs : ∀ x ∈ T, x ∈ U) : LeadC nd U ps f s a b f' s' a' b' := ⟨h.lead, h.ga, fun x hx => hs x (h.wy x hx)⟩
theorem LeadC.snoc {B : Type} {nd : B → B → B} {T : List (B × B)} {ps : List B} {f s f' s' : Nat} {a b a' b' : B} (h : LeadC nd T ps f s a b f' s' a' b') (p : B) (hs : s' ≠ 0) (hx : (if rgt f' s' then (p, b') else (b', p)) ∈ T) :
    LeadC nd T (ps ++ [p]) f s a b (nx f' s').1 (nx f' s').2 (if rgt f' s' then nd p a' else a') (if rgt f' s' then nd p b' else nd b' p) := by
  refine ⟨h.lead.snoc p hs, ?_, fun x hh => ?_⟩
  · rw [goA_append, h.lead.pos, h.ga]; rfl
  · rw [way_append, h.lead.pos, h.lead.fin] at hh
    rcases List.mem_append.1 hh with h1 | h1
    · exact h.wy x h1
    · simp only [way, List.mem_singleton] at h1
      rw [h1]; exact hx
/- A whole part of the tree: from what stands at the end of the first k to both roots. -/
theorem full_cons {B : Type} (nd : B → B → B) (e : B) : ∀ (h : Nat) (l : List B) (k q s : Nat), l.length = 2 ^ h → 1 ≤ k → k ≤ 2 ^ h → (k = 2 ^ h → q % 2 = 0) → q * 2 ^ h + 2 ^ h ≤ s + 1 →
    ∃ x ps, pr nd e l k false = x :: ps ∧ LeadC nd (tp nd e l) ps (strip (q * 2 ^ h + k - 1) s).1 (strip (q * 2 ^ h + k - 1) s).2 x x q (s / 2 ^ h) (rt nd e (l.take k)) (rt nd e l)
  | h, l, k, q, s, hl, hk1, hk2, hq, hs => by
    by_cases hk : k = 2 ^ h
    · refine ⟨rt nd e l, [], ?_, ?_⟩
      · rw [hk, ← hl, pr_all nd e (by omega)]; rfl
      · rw [hk, strip_ones (hq hk), ← hl, List.take_of_length_le (Nat.le_refl _)]
        exact LeadC.nil nd _ _ _ _ _
    match h, hl, hk2, hq, hs, hk with
    | 0, hl, hk2, hq, hs, hk => exact absurd (by rw [Nat.pow_zero] at *; omega) hk
    | h + 1, hl, hk2, hq, hs, hk =>
      have hp := Nat.one_le_two_pow (n := h)
      have e2 : 2 ^ (h + 1) = 2 * 2 ^ h := by rw [Nat.pow_succ, Nat.mul_comm]
      have hh : half l.length = 2 ^ h := by rw [hl]; exact half_two h
      have hl2 : 2 ≤ l.length := by omega
      have l1 : (l.take (2 ^ h)).length = 2 ^ h := by rw [List.length_take]; omega
      have l2 : (l.drop (2 ^ h)).length = 2 ^ h := by rw [List.length_drop]; omega
      have eq : q * 2 ^ (h + 1) = 2 * q * 2 ^ h := by rw [e2, Nat.mul_comm 2 q, Nat.mul_assoc]
      have ed : s / 2 ^ (h + 1) = s / 2 ^ h / 2 := by rw [Nat.div_div_eq_div_mul, Nat.pow_succ]
      have ht : 2 * q + 1 ≤ s / 2 ^ h := (Nat.le_div_iff_mul_le (by omega)).2 (by rw [Nat.add_mul]; omega)
      have htp := tp_two nd e hl2
      rw [hh] at htp
      by_cases hc : k ≤ 2 ^ h
      · obtain ⟨x, ps, e1, ih⟩ := full_cons nd e h (l.take (2 ^ h)) k (2 * q) s l1 hk1 hc (by omega) (by omega)
        refine ⟨x, ps ++ [rt nd e (l.drop (2 ^ h))], ?_, ?_⟩
        · rw [pr_lo nd e hk1 (by omega) (by omega), hh, e1]; rfl
        · obtain ⟨r1, r2⟩ := nx_even (q := q) (t := s / 2 ^ h) (by omega)
          have := (ih.mono (U := tp nd e l) fun y hy => by rw [htp]; simp [hy]).snoc (rt nd e (l.drop (2 ^ h))) (by omega) (by rw [r1, htp]; simp)
          rw [r1, r2, if_neg (by decide), if_neg (by decide), List.take_take, Nat.min_eq_left hc] at this
          rw [eq, ed, rt_two nd e hl2, hh]
          exact this
      · obtain ⟨x, ps, e1, ih⟩ := full_cons nd e h (l.drop (2 ^ h)) (k - 2 ^ h) (2 * q + 1) s l2 (by omega) (by omega) (by omega) (by rw [Nat.add_mul]; omega)
        refine ⟨x, ps ++ [rt nd e (l.take (2 ^ h))], ?_, ?_⟩
        · rw [pr_hi nd e hk1 (by omega) (by omega), hh, e1]; rfl
        · obtain ⟨r1, r2⟩ := nx_odd (q := q) (t := s / 2 ^ h)
          have := (ih.mono (U := tp nd e l) fun y hy => by rw [htp]; simp [hy]).snoc (rt nd e (l.take (2 ^ h))) (by omega) (by rw [r1, htp]; simp)
          rw [r1, r2, if_pos rfl, if_pos rfl] at this
          have hrt : rt nd e (l.take k) = nd (rt nd e (l.take (2 ^ h))) (rt nd e ((l.drop (2 ^ h)).take (k - 2 ^ h))) := by
            have hlk : (l.take k).length = k := by rw [List.length_take]; omega
            rw [rt_two nd e (by omega), hlk, half_uniq (n := k) (a := h) (by omega) (by omega), List.take_take, Nat.min_eq_left (by omega), List.drop_take]
          rw [ed, rt_two nd e hl2, hh, hrt, show q * 2 ^ (h + 1) + k - 1 = (2 * q + 1) * 2 ^ h + (k - 2 ^ h) - 1 by rw [Nat.add_mul, eq]; omega]
          exact this
/- The last part of the tree. -/
theorem last_cons {B : Type} (nd : B → B → B) (e : B) : ∀ (n : Nat) (l : List B) (k q H : Nat), l.length ≤ n → 1 ≤ k → k < l.length → l.length ≤ 2 ^ H →
    ∃ c x ps, c ≤ H ∧ pr nd e l k false = x :: ps ∧ LeadC nd (tp nd e l) ps (strip (q * 2 ^ H + k - 1) (q * 2 ^ H + l.length - 1)).1 (strip (q * 2 ^ H + k - 1) (q * 2 ^ H + l.length - 1)).2 x x (q * 2 ^ (H - c)) (q * 2 ^ (H - c)) (rt nd e (l.take k)) (rt nd e l)
  | 0, l, k, q, H, h0, h1, h2, h3 => by omega
  | n + 1, l, k, q, H, h0, h1, h2, h3 => by
    have hl2 : 2 ≤ l.length := by omega
    have hlt := half_lt hl2
    have hle := le_half hl2
    obtain ⟨a, ha⟩ : ∃ a, half l.length = 2 ^ a := ⟨_, rfl⟩
    rw [ha] at hlt hle
    have haH : a < H := (Nat.pow_lt_pow_iff_right (by omega : 1 < 2)).1 (by omega : 2 ^ a < 2 ^ H)
    have hp := Nat.one_le_two_pow (n := a)
    obtain ⟨v, hv⟩ : ∃ v, q * 2 ^ (H - (a + 1)) = v := ⟨_, rfl⟩
    have eo : q * 2 ^ H = 2 * v * 2 ^ a := by
      rw [← hv, show 2 ^ H = 2 ^ (H - (a + 1)) * (2 * 2 ^ a) by rw [← Nat.pow_succ', ← Nat.pow_add]; congr 1; omega]
      rw [Nat.mul_comm 2 (q * _), ← Nat.mul_assoc, Nat.mul_assoc (q * _) 2]
    have htp := tp_two nd e hl2
    rw [ha] at htp
    rw [eo]
    by_cases hc : k ≤ 2 ^ a
    · obtain ⟨x, ps, e1, ih⟩ := full_cons nd e a (l.take (2 ^ a)) k (2 * v) (2 * v * 2 ^ a + l.length - 1) (by rw [List.length_take]; omega) h1 hc (by omega) (by omega)
      refine ⟨a + 1, x, ps ++ [rt nd e (l.drop (2 ^ a))], by omega, ?_, ?_⟩
      · rw [pr_lo nd e h1 h2 (by omega), ha, e1]; rfl
      · have hd : (2 * v * 2 ^ a + l.length - 1) / 2 ^ a = 2 * v + 1 := by
          refine Nat.div_eq_of_lt_le ?_ ?_
          · rw [Nat.add_mul]; omega
          · rw [Nat.add_mul, Nat.add_mul]; omega
        rw [hd] at ih
        obtain ⟨r1, r2⟩ := nx_even (q := v) (t := 2 * v + 1) (by omega)
        have := (ih.mono (U := tp nd e l) fun y hy => by rw [htp]; simp [hy]).snoc (rt nd e (l.drop (2 ^ a))) (by omega) (by rw [r1, htp]; simp)
        rw [r1, r2, if_neg (by decide), if_neg (by decide), List.take_take, Nat.min_eq_left hc, show (2 * v + 1) / 2 = v by omega] at this
        rw [hv, rt_two nd e hl2, ha]
        exact this
    · have hdl : (l.drop (2 ^ a)).length = l.length - 2 ^ a := List.length_drop
      obtain ⟨c, x, ps, hcH, e1, ih⟩ := last_cons nd e n (l.drop (2 ^ a)) (k - 2 ^ a) (2 * v + 1) a (by omega) (by omega) (by omega) (by omega)
      refine ⟨a + 1, x, ps ++ [rt nd e (l.take (2 ^ a))], by omega, ?_, ?_⟩
      · rw [pr_hi nd e h1 h2 (by omega), ha, e1]; rfl
      · rw [show (2 * v + 1) * 2 ^ (a - c) = 2 ^ (a - c) * (2 * v + 1) from Nat.mul_comm _ _] at ih
        obtain ⟨r1, r2⟩ := nx_same (v := v) (j := a - c)
        have := (ih.mono (U := tp nd e l) fun y hy => by rw [htp]; simp [hy]).snoc (rt nd e (l.take (2 ^ a))) (Nat.mul_ne_zero (by have := Nat.one_le_two_pow (n := a - c); omega) (by omega)) (by rw [r1, htp]; simp)
        rw [r1, r2, if_pos rfl, if_pos rfl, hdl] at this
        have hrt : rt nd e (l.take k) = nd (rt nd e (l.take (2 ^ a))) (rt nd e ((l.drop (2 ^ a)).take (k - 2 ^ a))) := by
          have hlk : (l.take k).length = k := by rw [List.length_take]; omega
          rw [rt_two nd e (by omega), hlk, half_uniq (n := k) (a := a) (by omega) (by omega), List.take_take, Nat.min_eq_left (by omega), List.drop_take]
        rw [hv, rt_two nd e hl2, ha, hrt, show 2 * v * 2 ^ a + k - 1 = (2 * v + 1) * 2 ^ a + (k - 2 ^ a) - 1 by rw [Nat.add_mul]; omega, show 2 * v * 2 ^ a + l.length - 1 = (2 * v + 1) * 2 ^ a + (l.length - 2 ^ a) - 1 by rw [Nat.add_mul]; omega]
        exact this
/- Any first leaves are shown to be the beginning of the tree. -/
theorem first_in {B : Type} (nd : B → B → B) (e : B) (l : List B) (k : Nat) (h1 : 1 ≤ k) (h2 : k < l.length) :
    ∃ x ps, pr nd e l k false = x :: ps ∧ LeadC nd (tp nd e l) ps (strip (k - 1) (l.length - 1)).1 (strip (k - 1) (l.length - 1)).2 x x 0 0 (rt nd e (l.take k)) (rt nd e l) := by
  obtain ⟨c, x, ps, _, e1, hh⟩ := last_cons nd e l.length l k 0 l.length (Nat.le_refl _) h1 h2 (Nat.le_of_lt Nat.lt_two_pow_self)
  rw [Nat.zero_mul, Nat.zero_mul, Nat.zero_add, Nat.zero_add] at hh
  exact ⟨x, ps, e1, hh⟩
/- What is shown to be the beginning of a tree is it, or two unlike pairs have one hash. -/
theorem one_past {B : Type} (nd : B → B → B) (e : B) (l : List B) (k : Nat) (h1 : 1 ≤ k) (h2 : k < l.length) (x : B) (ps : List B) (f s : Nat) (hfs : strip (k - 1) (l.length - 1) = (f, s))
    (ho : okN ps.length f s = true) (hp : (goP ps.length f s).2 = 0) (hb : goB nd ps f s x = rt nd e l) :
    goA nd ps f s x = rt nd e (l.take k) ∨ Clash nd (way nd ps f s x ++ tp nd e l) := by
  obtain ⟨y, qs, _, hh⟩ := first_in nd e l k h1 h2
  rw [hfs] at hh
  rcases two_ways nd ps qs f s x y ho hp hh.lead.ok (by rw [hh.lead.pos]) (by rw [hb, hh.lead.fin]) with ⟨e1, e2⟩ | hc
  · subst e1 e2
    exact Or.inl hh.ga
  · refine Or.inr (hc.mono fun z hz => ?_)
    rcases List.mem_append.1 hz with h' | h'
    · exact List.mem_append.2 (Or.inl h')
    · exact List.mem_append.2 (Or.inr (hh.wy z h'))
/- Paths and proofs are short. -/
theorem pth_len {B : Type} (nd : B → B → B) (e : B) : ∀ (H : Nat) (l : List B) (i : Nat), l.length ≤ 2 ^ H → (pth nd e l i).length ≤ H
  | 0, l, i, h => by rw [pth_one nd e (by rw [Nat.pow_zero] at h; exact h)]; simp
  | H + 1, l, i, h => by
    by_cases hl : l.length ≤ 1
    · rw [pth_one nd e hl]; simp
    have hlt := half_lt (n := l.length) (by omega)
    have hle := le_half (n := l.length) (by omega)
    obtain ⟨a, ha⟩ : ∃ a, half l.length = 2 ^ a := ⟨_, rfl⟩
    have haH : a < H + 1 := (Nat.pow_lt_pow_iff_right (by omega : 1 < 2)).1 (by omega : 2 ^ a < 2 ^ (H + 1))
    have hp : 2 ^ a ≤ 2 ^ H := Nat.pow_le_pow_right (by omega) (by omega)
    by_cases hi : i < half l.length
    · rw [pth_lo nd e (by omega) hi, List.length_append]
      have := pth_len nd e H (l.take (half l.length)) i (by rw [List.length_take]; omega)
      simp; omega
    · rw [pth_hi nd e (by omega) (by omega), List.length_append]
      have := pth_len nd e H (l.drop (half l.length)) (i - half l.length) (by rw [List.length_drop]; omega)
      simp; omega
theorem pr_len {B : Type} (nd : B → B → B) (e : B) : ∀ (H : Nat) (l : List B) (k : Nat) (kn : Bool), 1 ≤ k → k ≤ l.length → l.length ≤ 2 ^ H → (pr nd e l k kn).length ≤ H + 1
  | H, l, k, kn, h1, h2, h => by
    by_cases hk : k = l.length
    · rw [hk, pr_all nd e (by omega)]
      cases kn <;> simp
    have hlt := half_lt (n := l.length) (by omega)
    have hle := le_half (n := l.length) (by omega)
    obtain ⟨a, ha⟩ : ∃ a, half l.length = 2 ^ a := ⟨_, rfl⟩
    have haH : a < H := (Nat.pow_lt_pow_iff_right (by omega : 1 < 2)).1 (by omega : 2 ^ a < 2 ^ H)
    match H, h, haH with
    | H + 1, h, haH =>
      have hp : 2 ^ a ≤ 2 ^ H := Nat.pow_le_pow_right (by omega) (by omega)
      by_cases hc : k ≤ half l.length
      · rw [pr_lo nd e h1 (by omega) hc, List.length_append]
        have := pr_len nd e H (l.take (half l.length)) k kn h1 (by rw [List.length_take]; omega) (by rw [List.length_take]; omega)
        simp; omega
      · rw [pr_hi nd e h1 (by omega) (by omega), List.length_append]
        have := pr_len nd e H (l.drop (half l.length)) (k - half l.length) false (by omega) (by rw [List.length_drop]; omega) (by rw [List.length_drop]; omega)
        simp; omega
end Go.Proofs.YtdfglpbappeoaabDoor.Mer
