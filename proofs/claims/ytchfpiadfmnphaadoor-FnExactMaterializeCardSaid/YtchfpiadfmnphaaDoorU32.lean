/- Numbers of 32 bits as UInt32: U x is the value; what the operators do of such values; the spec's l02Turn turns right. -/
import Derived.Test.YtchfpiadfmnphaaDoorChecked
import Derived.Tactics2
import Derived.WalkKit
import Derived.WalkSpells
import Derived.Laws.BitsAllLaws
import Derived.WalkLawsBesides
namespace Go.Proofs.YtchfpiadfmnphaaDoor
open Go.RowKit
set_option linter.unusedVariables false

def U (x : UInt32) : Value := .int .u32 (x.toNat : Int)
def sr (x : UInt32) (z : Int) : UInt32 := x >>> UInt32.ofNat z.toNat
def sl (x : UInt32) (z : Int) : UInt32 := x <<< UInt32.ofNat z.toNat
def rot (x : UInt32) (z : Int) : UInt32 := sr x z ||| sl x (32 - z)

theorem u32lt (x : UInt32) : x.toNat < 4294967296 := x.toNat_lt
theorem U_xor (t : TypeId) (x y : UInt32) : binOp .xor t (U x) (U y) = pure (U (x ^^^ y)) := by
  unfold U; rw [binOp_xor, intBits_xor, u32_xor_nat _ _ (u32lt x) (u32lt y)]; simp
theorem U_or (t : TypeId) (x y : UInt32) : binOp .or t (U x) (U y) = pure (U (x ||| y)) := by
  unfold U; rw [binOp_or, intBits_or, u32_or_nat _ _ (u32lt x) (u32lt y)]; simp
theorem U_and (t : TypeId) (x y : UInt32) : binOp .and t (U x) (U y) = pure (U (x &&& y)) := by
  unfold U; rw [binOp_and, intBits_and, u32_and_nat _ _ (u32lt x) (u32lt y)]; simp
theorem U_add (t : TypeId) (x y : UInt32) : binOp .add t (U x) (U y) = pure (U (x + y)) := by
  unfold U; rw [binOp_add]
  show pure (Value.int .u32 (IntKind.u32.wrap ((x.toNat : Int) + y.toNat))) = _
  rw [IntKind.wrap_u32', UInt32.toNat_add]
  congr 2
theorem U_shr (t : TypeId) (x : UInt32) (k : IntKind) (z : Int) (h0 : 0 ≤ z) (h1 : z < 32) : binOp .shr t (U x) (.int k z) = pure (U (sr x z)) := by
  unfold U sr; rw [binOp_shr, shift_shr_u32 _ _ _ h0 (by omega), UInt32.toNat_shiftRight]
  have : (UInt32.ofNat z.toNat).toNat = z.toNat := by simp; omega
  rw [this, Nat.mod_eq_of_lt (by omega), Nat.shiftRight_eq_div_pow]
  simp
theorem U_shl (t : TypeId) (x : UInt32) (k : IntKind) (z : Int) (h0 : 0 ≤ z) (h1 : z < 32) : binOp .shl t (U x) (.int k z) = pure (U (sl x z)) := by
  unfold U sl; rw [binOp_shl, shift_shl_u32 _ _ _ h0 (by omega), UInt32.toNat_shiftLeft]
  have : (UInt32.ofNat z.toNat).toNat = z.toNat := by simp; omega
  have h2 : z.toNat % 32 = z.toNat := Nat.mod_eq_of_lt (by omega)
  rw [this, h2, Nat.shiftLeft_eq, IntKind.wrap_u32']
  congr 2
theorem U_not (x : UInt32) : Op.unary .xor (U x) = pure (U (~~~x)) := by
  unfold U
  have : bits .xor .u32 ((4294967295 : Nat) : Int) (x.toNat : Int) = ((~~~x).toNat : Int) := by
    have hx := u32lt x
    rw [u32_xor_nat _ _ (by omega) hx, UInt32.toNat_not]
    congr 1
    have h : (4294967295 : Nat) ^^^ x.toNat = (BitVec.allOnes 32 ^^^ x.toBitVec).toNat := by rw [BitVec.toNat_xor]; rfl
    rw [h, BitVec.allOnes_xor, BitVec.toNat_not]
    simp only [UInt32.size]
    rfl
  rw [unary_xor, intBits_xor]
  show pure (Value.int .u32 (bits .xor .u32 ((4294967295 : Nat) : Int) (x.toNat : Int))) = _
  rw [this]
theorem U_of_u8 {P : Program} (w : World) (src dst : TypeId) (z : Int) (h0 : 0 ≤ z) (h1 : z < 256) (hs : P.underlying src = some (.int .u8)) (hd : P.underlying dst = some (.int .u32)) :
    (convert src dst (.int .u8 z)).run P w = .ok (U (UInt32.ofNat z.toNat)) w := by
  have hk : P.intKind dst = .u32 := by simp [Program.intKind, hd]
  rw [run_convert_int w src dst .u8 z (by rw [hs]; rfl) (by rw [hk]; exact hd), hk, IntKind.wrap_u32']
  unfold U
  congr 2
  simp
  omega
theorem U_of_i64 {P : Program} (w : World) (src dst : TypeId) (x : UInt32) (hs : P.underlying src = some (.int .i64)) (hd : P.underlying dst = some (.int .u32)) :
    (convert src dst (.int .i64 (x.toNat : Int))).run P w = .ok (U x) w := by
  have hk : P.intKind dst = .u32 := by simp [Program.intKind, hd]
  have hx := u32lt x
  rw [run_convert_int w src dst .i64 _ (by rw [hs]; rfl) (by rw [hk]; exact hd), hk, IntKind.wrap_u32']
  unfold U
  congr 2
  omega
theorem U_to_i64 {P : Program} (w : World) (src dst : TypeId) (x : UInt32) (hs : P.underlying src = some (.int .u32)) (hd : P.underlying dst = some (.int .i64)) :
    (convert src dst (U x)).run P w = .ok (.int .i64 (x.toNat : Int)) w := by
  have hk : P.intKind dst = .i64 := by simp [Program.intKind, hd]
  have hx := u32lt x
  unfold U
  rw [run_convert_int w src dst .u32 _ (by rw [hs]; rfl) (by rw [hk]; exact hd), hk]
  congr 2
  simp [IntKind.wrap, IntKind.signed, IntKind.bits]
  omega

theorem U_store {P : Program} (w : World) (a : Addr) (x : UInt32) (m : Mode) : (store a (U x) m).run P w = stored P w a (U x) m := run_store P w a _ m rfl
theorem U_cells (x : UInt32) : (U x).cells = #[U x] := rfl
theorem U_one' (x : UInt32) : (U x).oneCell' = true := rfl

attribute [local go_sem] U_xor U_or U_and U_add U_shr U_shl U_not
theorem turn_any (x : UInt32) (k : Int) (w : World) (h0 : 0 < k) (h1 : k < 32) :
    Calls Tryd.prog 96 #[U x, .int .u64 k] w fun e w' => e = .returned (U (rot x k)) ∧ w' = w := by
  have e : IntKind.u64.wrap (32 - k) = 32 - k := by simp [IntKind.wrap, IntKind.signed, IntKind.bits]; omega
  have a0 : 0 ≤ k := by omega
  obtain ⟨m, hm⟩ : ∃ m, 32 - k = m := ⟨_, rfl⟩
  have HM : Hid (32 - k = m) := hm
  rw [hm] at e
  have b0 : 0 ≤ m := by omega
  have b1 : m < 32 := by omega
  go_enter Tryd.func96, Tryd.ntmps96
  go_wp2
  go_ret
  refine ⟨?_, rfl⟩
  rw [← HM.out]
  rfl
end Go.Proofs.YtchfpiadfmnphaaDoor
