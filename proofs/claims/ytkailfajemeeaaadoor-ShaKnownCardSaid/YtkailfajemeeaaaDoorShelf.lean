/-
  What of math/bits.Mul64 this translation has: the facts that the library's contract asks.
-/
import Derived.Shelf.Bits.Mul64
import Derived.Test.YtkailfajemeeaaaDoorProg
namespace Go.Proofs
open Go.Shelf
def Tryd.mul64A_ren : Go.Shelf.Ren := ⟨fun | 264 => 35 | n => n, fun | 53 => 49 | 46 => 45 | n => n, fun | n => n⟩
theorem Tryd.mul64A : Go.Proofs.Lays.n264 Tryd.prog Tryd.mul64A_ren := {
  mixed := by kernel_rfl
  f264 := Tryd.func35.trans (congrArg some (by kernel_rfl))
  t46 := Tryd.underlying45
  a46 := Tryd.isAgg45
  z46 := Tryd.sizeOf45
  v46 := Tryd.zeroValue45
  t53 := Tryd.underlying49
  a53 := Tryd.isAgg49
  z53 := Tryd.sizeOf49
  v53 := Tryd.zeroValue49 }
end Go.Proofs
