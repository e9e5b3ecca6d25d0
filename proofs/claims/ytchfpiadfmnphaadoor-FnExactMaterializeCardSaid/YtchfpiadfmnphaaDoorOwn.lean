/- Small laws on memory that the walks of this seat share: bytes that a call appends to a slice of its own, and such a slice as a text. -/
import Derived.Test.YtchfpiadfmnphaaDoorRows
import Derived.WalkKit
import Derived.ProofKit
import Derived.Laws.BytesArg
namespace Go.Proofs.YtchfpiadfmnphaaDoor
open Go.RowKit
set_option linter.unusedVariables false

def BV (b : UInt8) : Value := .int .u8 b.toNat
theorem BV_ofNat (u : Nat) (h : u < 256) : BV (UInt8.ofNat u) = .int .u8 (u : Int) := by
  simp [BV, Nat.mod_eq_of_lt h]
def bvs (l : List UInt8) : List Value := l.map BV
theorem bvs_length (l : List UInt8) : (bvs l).length = l.length := by simp [bvs]
theorem ret_int {k : IntKind} {a b : Int} (h : a = b) : Ending.returned (.int k a) = .returned (.int k b) := by rw [h]
theorem ret_str {a b : ByteArray} (h : a = b) : Ending.returned (.string a) = .returned (.string b) := by rw [h]
theorem Tryd.infoU8 : (Tryd.prog.info? 5).map (fun i => (i.zero, i.size, i.bytes)) = some (some (.int .u8 0), 1, 1) := by kernel_rfl

/- A slice of bytes of the call's own, as a text. -/
theorem run_conv_own {P : Program} {w : World} {base e n : Nat} {v : Value} {bs : List UInt8} (src : TypeId) (hs : P.underlying src = some (.slice e)) (he : P.underlying e = some (.int .u8))
    (hown : w.ownsRow base e 1 v n (bvs bs)) : ∀ dst, P.underlying dst = some .string → (convert src dst v).run P w = .ok (.string ⟨bs.toArray⟩) w := by
  intro dst hd
  have hlen := hown.1
  rw [bvs_length] at hlen
  rcases hown.2 with ⟨rfl, rfl⟩ | ⟨g, cap, cur, rfl, hbg, hg, hnc, hcm, hcs, htake⟩
  · have : bs = [] := by simpa using hlen
    subst this
    exact run_convert_bytes_nil w src e hs he 0 0 dst hd
  · have hcells := hown.cells (g := g) rfl
    unfold bvs at hcells
    have hl : bs.length = n := by simpa using hlen
    have := run_convert_bytes_arg w src e hs he g 0 n cap (bs.map fun b => (b.toNat : Int)) (by simpa using hl) (fun i hi => by
      have := hcells i (BV bs[i]) (by simp [List.getElem?_eq_getElem (show i < bs.length by omega)])
      have he : (⟨g, 0, none⟩ : Addr).add i = ⟨g, 0 + i, none⟩ := by unfold Addr.add; split <;> simp_all
      rw [he] at this
      rw [this]
      simp [BV, List.getElem?_eq_getElem (show i < bs.length by omega)]) dst hd
    rw [this]
    congr 3
    simp [strOfNums, List.map_map, Function.comp_def]

/- One byte more. -/
theorem wpList_append_byte {P : Program} {wr : World} {ops : Array Oper} {rest : List Oper} {o : Oper} {a : Act} {Q : Exit → Act → World → Prop} (hgd : o.guard = none) (s x : Operand) (t : TypeId)
    (ho : o.op = .call { callee := .builtin .append, args := #[s, x], argTypes := #[t, t] })
    (base : Nat) (e : TypeId) (ht : P.underlying t = some (.slice e)) (hinfo : (P.info? e).map (fun i => (i.zero, i.size, i.bytes)) = some (some (.int .u8 0), 1, 1))
    (v : Value) (bs : List UInt8) (n : Nat) (hs : a.eval s = v) (hown : wr.ownsRow base e 1 v n (bvs bs)) (b : UInt8) (z : Int) (hb : BV b = .int .u8 z)
    (c : Nat) (hx : a.eval x = .slice (some ⟨wr.heap.size, 0, none⟩) 1 c) (hn : n ≤ 1000000000) (hbase : base ≤ wr.heap.size)
    (h : ∀ v' w', w'.ownsRow base e 1 v' (n + 1) (bvs (bs ++ [b])) → Below base wr w' → wpList P ops Q rest (a.put o.dst v') w') :
    wpList P ops Q (o :: rest) a (wr.alloc (.cells #[.int .u8 z] e)) := by
  obtain ⟨i0, hi, hz0, hz1, hz2⟩ := info_parts hinfo
  refine wpList_append_own _ hgd s x t ho base e i0 (.int .u8 0) 1 1 ht hi hz0 hz1 hz2 rfl (by decide) v n (bvs bs) hs (hown.alloc _) ⟨wr.heap.size, 0, none⟩ 1 c [BV b] hx rfl ?_ ?_ ?_ ?_ ?_ ?_
  · intro j u hj
    match j, hj with
    | 0, hj => simp at hj; subst hj; rw [hb]; simp [Addr.add]
  · intro u hu; simp at hu; subst hu; rfl
  · unfold maxLen; omega
  · omega
  · simp; omega
  · intro v' w' h1 h2 _
    refine h v' w' (by simpa [bvs] using h1) ?_
    exact (((Below.refl base wr).alloc hbase _).grown h2 (by simp; omega) (fun k hk => (hown.lt k hk).1))
end Go.Proofs.YtchfpiadfmnphaaDoor
