/- Small laws on memory that the walks of this seat share: bytes that a call appends to a slice of its own, and such a slice as a text. What the two Go functions PutNum (the specification's and the program's) answer, for every number: one text. A number's bytes are ten at most. What the two Go functions PutText (the specification's and the program's) answer, for every text: one text. -/
import Derived.Test.YtdfglpbappeoaaaGreatDoorRows
import Derived.WalkKit
import Derived.ProofKit
import Derived.Laws.BytesArg
import Derived.Test.YtdfglpbappeoaaaGreatDoorInts
namespace Go.Proofs.YtdfglpbappeoaaaGreatDoor
open Go.RowKit
set_option linter.unusedVariables false

def BV (b : UInt8) : Value := .int .u8 b.toNat
theorem BV_ofNat (u : Nat) (h : u < 256) : BV (UInt8.ofNat u) = .int .u8 (u : Int) := by
  simp [BV, Nat.mod_eq_of_lt h]
def bvs (l : List UInt8) : List Value := l.map BV
theorem bvs_length (l : List UInt8) : (bvs l).length = l.length := by simp [bvs]
theorem ret_int {k : IntKind} {a b : Int} (h : a = b) : Ending.returned (.int k a) = .returned (.int k b) := by rw [h]
theorem ret_str {a b : ByteArray} (h : a = b) : Ending.returned (.string a) = .returned (.string b) := by rw [h]
theorem Tryz.infoU8 : (Tryz.prog.info? 5).map (fun i => (i.zero, i.size, i.bytes)) = some (some (.int .u8 0), 1, 1) := by kernel_rfl

/- A slice of bytes of the call's own, as a text. -/
theorem run_conv_own {P : Program} {w : World} {base e n : Nat} {v : Value} {bs : List UInt8} (src : TypeId) (hs : P.underlying src = some (.slice e)) (he : P.underlying e = some (.int .u8))
    (hown : w.ownsRow base e 1 v n (bvs bs)) : ∀ dst, P.underlying dst = some .string → (convert src dst v).run P w = .ok (.string ⟨bs.toArray⟩) w := by
  intro dst hd
  have hlen := hown.1
  rw [bvs_length] at hlen
  rcases hown.2 with ⟨rfl, rfl⟩ | ⟨g, cap, cur, rfl, hbg, hg, hnc, hcm, hcs, htake⟩
  · have : bs = [] := by simpa using hlen
    subst this
    exact run_convert_bytes_nil w src e hs he 0 0 dst hd
  · have hcells := hown.cells (g := g) rfl
    unfold bvs at hcells
    have hl : bs.length = n := by simpa using hlen
    have := run_convert_bytes_arg w src e hs he g 0 n cap (bs.map fun b => (b.toNat : Int)) (by simpa using hl) (fun i hi => by
      have := hcells i (BV bs[i]) (by simp [List.getElem?_eq_getElem (show i < bs.length by omega)])
      have he : (⟨g, 0, none⟩ : Addr).add i = ⟨g, 0 + i, none⟩ := by unfold Addr.add; split <;> simp_all
      rw [he] at this
      rw [this]
      simp [BV, List.getElem?_eq_getElem (show i < bs.length by omega)]) dst hd
    rw [this]
    congr 3
    simp [strOfNums, List.map_map, Function.comp_def]

/- One byte more. -/
theorem wpList_append_byte {P : Program} {wr : World} {ops : Array Oper} {rest : List Oper} {o : Oper} {a : Act} {Q : Exit → Act → World → Prop} (hgd : o.guard = none) (s x : Operand) (t : TypeId)
    (ho : o.op = .call { callee := .builtin .append, args := #[s, x], argTypes := #[t, t] })
    (base : Nat) (e : TypeId) (ht : P.underlying t = some (.slice e)) (hinfo : (P.info? e).map (fun i => (i.zero, i.size, i.bytes)) = some (some (.int .u8 0), 1, 1))
    (v : Value) (bs : List UInt8) (n : Nat) (hs : a.eval s = v) (hown : wr.ownsRow base e 1 v n (bvs bs)) (b : UInt8) (z : Int) (hb : BV b = .int .u8 z)
    (c : Nat) (hx : a.eval x = .slice (some ⟨wr.heap.size, 0, none⟩) 1 c) (hn : n ≤ 1000000000) (hbase : base ≤ wr.heap.size)
    (h : ∀ v' w', w'.ownsRow base e 1 v' (n + 1) (bvs (bs ++ [b])) → Below base wr w' → wpList P ops Q rest (a.put o.dst v') w') :
    wpList P ops Q (o :: rest) a (wr.alloc (.cells #[.int .u8 z] e)) := by
  obtain ⟨i0, hi, hz0, hz1, hz2⟩ := info_parts hinfo
  refine wpList_append_own _ hgd s x t ho base e i0 (.int .u8 0) 1 1 ht hi hz0 hz1 hz2 rfl (by decide) v n (bvs bs) hs (hown.alloc _) ⟨wr.heap.size, 0, none⟩ 1 c [BV b] hx rfl ?_ ?_ ?_ ?_ ?_ ?_
  · intro j u hj
    match j, hj with
    | 0, hj => simp at hj; subst hj; rw [hb]; simp [Addr.add]
  · intro u hu; simp at hu; subst hu; rfl
  · unfold maxLen; omega
  · omega
  · simp; omega
  · intro v' w' h1 h2 _
    refine h v' w' (by simpa [bvs] using h1) ?_
    exact (((Below.refl base wr).alloc hbase _).grown h2 (by simp; omega) (fun k hk => (hown.lt k hk).1))
end Go.Proofs.YtdfglpbappeoaaaGreatDoor
namespace Go.Proofs.YtdfglpbappeoaaaGreatDoor
open Go.RowKit
set_option linter.unusedVariables false

def foldN (n : Int) : Nat := if n < 0 then (-2 * n - 1).toNat else (2 * n).toNat
theorem I64.foldLt {n : Int} (h : I64 n) : foldN n < 2 * 128 ^ 9 := by
  have := h.bd
  unfold foldN
  split <;> omega
theorem fold_neg {n : Int} (hn : I64 n) (h : n < 0) : IntKind.u64.wrap (IntKind.u64.wrap (2 * IntKind.u64.wrap (wrap64 (-wrap64 (n + 1)))) + 1) = (foldN n : Int) := by
  have := hn.bd
  unfold foldN
  rw [if_pos h]
  simp [wrap64, IntKind.wrap, IntKind.signed, IntKind.bits]
  omega
theorem fold_pos {n : Int} (hn : I64 n) (h : ¬ n < 0) : IntKind.u64.wrap (2 * IntKind.u64.wrap n) = (foldN n : Int) := by
  have := hn.bd
  unfold foldN
  rw [if_neg h]
  simp [IntKind.wrap, IntKind.signed, IntKind.bits]
  omega

/- The bytes of a number: seven bits a byte, the lowest first. -/
def enc : Nat → Nat → List UInt8
  | 0, u => [UInt8.ofNat u]
  | f + 1, u => if u < 128 then [UInt8.ofNat u] else UInt8.ofNat (u % 128 + 128) :: enc f (u / 128)
theorem enc_last (f u : Nat) (h : u < 128) : enc f u = [UInt8.ofNat u] := by
  cases f <;> simp [enc, h]
def putS (n : Int) : ByteArray := ⟨(enc 9 (foldN n)).toArray⟩
/- What stands at the head of a round: the bytes that are out, and the number that is left. -/
def Left (u0 : Nat) (bs : List UInt8) (f u : Nat) : Prop := u < 2 * 128 ^ f ∧ bs.length + f = 9 ∧ bs ++ enc f u = enc 9 u0
theorem Left.start {u0 : Nat} (h : u0 < 2 * 128 ^ 9) : Left u0 [] 9 u0 := ⟨h, rfl, rfl⟩
theorem Left.bound {u0 f u : Nat} {bs : List UInt8} (h : Left u0 bs f u) : (u : Int) ≤ 18446744073709551615 := by
  have h1 := h.1
  have h2 : f ≤ 9 := by have := h.2.1; omega
  have h3 : 128 ^ f ≤ 128 ^ 9 := Nat.pow_le_pow_right (by omega) h2
  omega
theorem Left.step {u0 f u : Nat} {bs : List UInt8} (h : Left u0 bs f u) (hu : 128 ≤ u) : ∃ f', f = f' + 1 ∧ Left u0 (bs ++ [UInt8.ofNat (u % 128 + 128)]) f' (u / 128) := by
  obtain ⟨h1, h2, h3⟩ := h
  cases f with
  | zero => simp at h1; omega
  | succ f' =>
    refine ⟨f', rfl, ?_, by simp; omega, ?_⟩
    · rw [Nat.pow_succ] at h1; omega
    · rw [← h3]; simp [enc, show ¬ u < 128 by omega]
theorem Left.done {u0 f u : Nat} {bs : List UInt8} (h : Left u0 bs f u) (hu : u < 128) : bs ++ [UInt8.ofNat u] = enc 9 u0 := by
  rw [← h.2.2, enc_last f u hu]

end Go.Proofs.YtdfglpbappeoaaaGreatDoor
namespace Go.Proofs.YtdfglpbappeoaaaGreatDoor
open Go.RowKit
set_option linter.unusedVariables false

theorem enc_len (f u : Nat) : (enc f u).length ≤ f + 1 := by
  induction f generalizing u with
  | zero => simp [enc]
  | succ f ih =>
    unfold enc
    split
    · simp
    · have := ih (u / 128); simp; omega
theorem putS_size (n : Int) : (putS n).size ≤ 10 := by
  have := enc_len 9 (foldN n)
  simpa [putS, ByteArray.size] using this
end Go.Proofs.YtdfglpbappeoaaaGreatDoor
namespace Go.Proofs.YtdfglpbappeoaaaGreatDoor
open Go.RowKit
set_option linter.unusedVariables false

theorem I64.ofNat {k : Nat} (h : k ≤ 20000) : I64 (k : Int) := by
  unfold I64
  exact WalkArith.wf_i64 (by omega)
def putT (s : ByteArray) : ByteArray := if 20000 < s.size then ⟨#[]⟩ else putS s.size ++ s

end Go.Proofs.YtdfglpbappeoaaaGreatDoor
