/-
  Words of 32 bits as the program's numbers: what each operation on numbers makes of them. No program here.
-/
import Derived.Test.YtkailfajemeeaaaDoorShaMath
import Derived.Laws.BitsAllLaws
namespace Go.Proofs.YtkailfajemeeaaaDoor.Sha
open Go
set_option linter.unusedVariables false

def u32V (x : Wd) : Value := .int .u32 (x.toNat : Int)
def u8V (n : Nat) : Value := .int .u8 (n : Int)
theorem wd_lt (x : Wd) : x.toNat < 4294967296 := x.isLt
theorem wd_wrap (x : Wd) : IntKind.u32.wrap (x.toNat : Int) = (x.toNat : Int) := by
  have := wd_lt x
  simp [IntKind.wrap, IntKind.bits, IntKind.signed]
  omega
theorem wd_and (x y : Wd) : bits .and .u32 (x.toNat : Int) (y.toNat : Int) = ((x &&& y).toNat : Int) := by rw [u32_and_nat _ _ (wd_lt x) (wd_lt y), BitVec.toNat_and]
theorem wd_or (x y : Wd) : bits .or .u32 (x.toNat : Int) (y.toNat : Int) = ((x ||| y).toNat : Int) := by rw [u32_or_nat _ _ (wd_lt x) (wd_lt y), BitVec.toNat_or]
theorem wd_xor (x y : Wd) : bits .xor .u32 (x.toNat : Int) (y.toNat : Int) = ((x ^^^ y).toNat : Int) := by rw [u32_xor_nat _ _ (wd_lt x) (wd_lt y), BitVec.toNat_xor]
theorem wd_not (x : Wd) : bits .xor .u32 4294967295 (x.toNat : Int) = ((~~~x).toNat : Int) := by
  have h := wd_xor (BitVec.allOnes 32) x
  rw [show ((BitVec.allOnes 32).toNat : Int) = 4294967295 by decide] at h
  rw [h, BitVec.allOnes_xor]
theorem wd_add (x y : Wd) : IntKind.u32.wrap ((x.toNat : Int) + (y.toNat : Int)) = ((x + y).toNat : Int) := by
  rw [BitVec.toNat_add]
  simp [IntKind.wrap, IntKind.bits, IntKind.signed]
theorem wd_addm (x y : Wd) : ((x.toNat : Int) + (y.toNat : Int)) % 4294967296 = ((x + y).toNat : Int) := by
  rw [BitVec.toNat_add]
  simp
theorem wd_shl (x : Wd) (n : Nat) : (x.toNat : Int) * 2 ^ n % 4294967296 = ((x <<< n).toNat : Int) := by
  rw [BitVec.toNat_shiftLeft, Nat.shiftLeft_eq]
  simp
theorem wd_shr (x : Wd) (n : Nat) : (x.toNat : Int) / 2 ^ n = ((x >>> n).toNat : Int) := by
  rw [BitVec.toNat_ushiftRight, Nat.shiftRight_eq_div_pow]
  simp
theorem wd_of (n : Int) (h0 : 0 ≤ n) (h1 : n < 4294967296) : n = ((BitVec.ofNat 32 n.toNat).toNat : Int) := by
  rw [BitVec.toNat_ofNat]
  omega

end Go.Proofs.YtkailfajemeeaaaDoor.Sha
