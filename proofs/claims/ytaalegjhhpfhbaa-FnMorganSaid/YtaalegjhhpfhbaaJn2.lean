/- Small laws on memory that the walks of this seat share: bytes that a call appends to a slice of its own, and such a slice as a text. A row of bytes that a call has made and that is known whole. -/
import Derived.Test.YtaalegjhhpfhbaaRows
import Derived.WalkKit
import Derived.ProofKit
import Derived.Laws.BytesArg
namespace Go.Proofs.Ytaalegjhhpfhbaa
open Go.RowKit
set_option linter.unusedVariables false

def BV (b : UInt8) : Value := .int .u8 b.toNat
theorem BV_ofNat (u : Nat) (h : u < 256) : BV (UInt8.ofNat u) = .int .u8 (u : Int) := by
  simp [BV, Nat.mod_eq_of_lt h]
def bvs (l : List UInt8) : List Value := l.map BV
theorem bvs_length (l : List UInt8) : (bvs l).length = l.length := by simp [bvs]
theorem ret_int {k : IntKind} {a b : Int} (h : a = b) : Ending.returned (.int k a) = .returned (.int k b) := by rw [h]
theorem ret_str {a b : ByteArray} (h : a = b) : Ending.returned (.string a) = .returned (.string b) := by rw [h]
theorem Try.infoU8 : (Try.prog.info? 5).map (fun i => (i.zero, i.size, i.bytes)) = some (some (.int .u8 0), 1, 1) := by kernel_rfl

/- A slice of bytes of the call's own, as a text. -/
theorem run_conv_own {P : Program} {w : World} {base e n : Nat} {v : Value} {bs : List UInt8} (src : TypeId) (hs : P.underlying src = some (.slice e)) (he : P.underlying e = some (.int .u8))
    (hown : w.ownsRow base e 1 v n (bvs bs)) : ∀ dst, P.underlying dst = some .string → (convert src dst v).run P w = .ok (.string ⟨bs.toArray⟩) w := by
  intro dst hd
  have hlen := hown.1
  rw [bvs_length] at hlen
  rcases hown.2 with ⟨rfl, rfl⟩ | ⟨g, cap, cur, rfl, hbg, hg, hnc, hcm, hcs, htake⟩
  · have : bs = [] := by simpa using hlen
    subst this
    exact run_convert_bytes_nil w src e hs he 0 0 dst hd
  · have hcells := hown.cells (g := g) rfl
    unfold bvs at hcells
    have hl : bs.length = n := by simpa using hlen
    have := run_convert_bytes_arg w src e hs he g 0 n cap (bs.map fun b => (b.toNat : Int)) (by simpa using hl) (fun i hi => by
      have := hcells i (BV bs[i]) (by simp [List.getElem?_eq_getElem (show i < bs.length by omega)])
      have he : (⟨g, 0, none⟩ : Addr).add i = ⟨g, 0 + i, none⟩ := by unfold Addr.add; split <;> simp_all
      rw [he] at this
      rw [this]
      simp [BV, List.getElem?_eq_getElem (show i < bs.length by omega)]) dst hd
    rw [this]
    congr 3
    simp [strOfNums, List.map_map, Function.comp_def]

/- One byte more. -/
theorem wpList_append_byte {P : Program} {wr : World} {ops : Array Oper} {rest : List Oper} {o : Oper} {a : Act} {Q : Exit → Act → World → Prop} (hgd : o.guard = none) (s x : Operand) (t : TypeId)
    (ho : o.op = .call { callee := .builtin .append, args := #[s, x], argTypes := #[t, t] })
    (base : Nat) (e : TypeId) (ht : P.underlying t = some (.slice e)) (hinfo : (P.info? e).map (fun i => (i.zero, i.size, i.bytes)) = some (some (.int .u8 0), 1, 1))
    (v : Value) (bs : List UInt8) (n : Nat) (hs : a.eval s = v) (hown : wr.ownsRow base e 1 v n (bvs bs)) (b : UInt8) (z : Int) (hb : BV b = .int .u8 z)
    (c : Nat) (hx : a.eval x = .slice (some ⟨wr.heap.size, 0, none⟩) 1 c) (hn : n ≤ 1000000000) (hbase : base ≤ wr.heap.size)
    (h : ∀ v' w', w'.ownsRow base e 1 v' (n + 1) (bvs (bs ++ [b])) → Below base wr w' → wpList P ops Q rest (a.put o.dst v') w') :
    wpList P ops Q (o :: rest) a (wr.alloc (.cells #[.int .u8 z] e)) := by
  obtain ⟨i0, hi, hz0, hz1, hz2⟩ := info_parts hinfo
  refine wpList_append_own _ hgd s x t ho base e i0 (.int .u8 0) 1 1 ht hi hz0 hz1 hz2 rfl (by decide) v n (bvs bs) hs (hown.alloc _) ⟨wr.heap.size, 0, none⟩ 1 c [BV b] hx rfl ?_ ?_ ?_ ?_ ?_ ?_
  · intro j u hj
    match j, hj with
    | 0, hj => simp at hj; subst hj; rw [hb]; simp [Addr.add]
  · intro u hu; simp at hu; subst hu; rfl
  · unfold maxLen; omega
  · omega
  · simp; omega
  · intro v' w' h1 h2 _
    refine h v' w' (by simpa [bvs] using h1) ?_
    exact (((Below.refl base wr).alloc hbase _).grown h2 (by simp; omega) (fun k hk => (hown.lt k hk).1))
end Go.Proofs.Ytaalegjhhpfhbaa
namespace Go.Proofs.Ytaalegjhhpfhbaa
open Go.RowKit
set_option linter.unusedVariables false

/- A row of bytes that is known whole. -/
def RowIs (w : World) (g e : Nat) (l : List UInt8) : Prop := w.heap[g]? = some (.cells (bvs l).toArray e (0, 0))
theorem RowIs.made {w : World} {base e g n : Nat} {xs : List Value} (h : w.ownsRow base e 1 (.slice (some ⟨g, 0, none⟩) n n) n xs) (hx : xs = bvs (List.replicate n 0)) : RowIs w g e (List.replicate n 0) := by
  rcases h.2 with ⟨h1, _⟩ | ⟨g', cap, cur, hv, hbg, hg, hnc, hcm, hcs, htake⟩
  · simp at h1
  · simp at hv
    obtain ⟨rfl, rfl⟩ := hv
    unfold RowIs
    rw [hg, ← hx, ← htake, List.take_of_length_le (by simp [hcs])]
theorem RowIs.owns {w : World} {base e g n : Nat} {l : List UInt8} (h : RowIs w g e l) (hl : l.length = n) (hb : base ≤ g) (hm : n ≤ maxLen) : w.ownsRow base e 1 (.slice (some ⟨g, 0, none⟩) n n) n (bvs l) :=
  ⟨by rw [bvs_length]; omega, .inr ⟨g, n, _, rfl, hb, h, Nat.le_refl _, hm, by simp [bvs_length, hl], by rw [List.take_of_length_le (by simp [bvs_length, hl])]⟩⟩

theorem made_zero (n : Nat) : (madeCells #[Value.int .u8 0] n).toList = bvs (List.replicate n 0) := by
  apply List.ext_getElem
  · simp [madeCells, bvs]
  · intro i h1 h2
    simp [madeCells, bvs, BV, Nat.mod_one]

theorem own_empty {W : World} {B e : Nat} (hB : W.heap.size = B) : (W.alloc (.cells #[] e)).ownsRow B e 1 (.slice (some ⟨B, 0, none⟩) 0 0) 0 (bvs []) := by
  subst hB
  exact World.ownsRow_made W #[] 0 (Nat.le_refl _) (Nat.zero_le _) rfl
theorem bvs_get {l : List UInt8} {k : Nat} (h : k < l.length) : (bvs l)[k]? = some (BV l[k]) := by
  simp [bvs, List.getElem?_eq_getElem h]
theorem RowIs.cell {w : World} {g e : Nat} {l : List UInt8} (h : RowIs w g e l) {k : Nat} (hk : k < l.length) : w.cell? ⟨g, k, none⟩ = some (BV l[k]) := by
  unfold RowIs at h
  simp [World.cell?, h, bvs_get hk]
theorem RowIs.frozen {w : World} {g e : Nat} {l : List UInt8} (h : RowIs w g e l) (k : Nat) : w.frozen? ⟨g, k, none⟩ = false := by
  unfold RowIs at h
  simp [World.frozen?, h]
theorem RowIs.set {w : World} {g e : Nat} {l l' : List UInt8} (h : RowIs w g e l) (k : Nat) {z : Int} {b : UInt8} (hz : BV b = .int .u8 z) (hl : l' = l.set k b) : RowIs (w.setCell ⟨g, k, none⟩ (.int .u8 z)) g e l' := by
  unfold RowIs at *
  rw [heap_setCell_same w g k _ _ _ h, hl, ← hz]
  congr 2
  simp [bvs, List.map_set]
end Go.Proofs.Ytaalegjhhpfhbaa
