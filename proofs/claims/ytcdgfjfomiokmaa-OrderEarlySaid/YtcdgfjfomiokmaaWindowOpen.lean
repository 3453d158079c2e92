/-
  A window as an argument, opened: two numbers, each an int.
-/
import Derived.Test.YtcdgfjfomiokmaaClose
import Derived.Test.YtcdgfjfomiokmaaOpen
import Derived.Lib.SmallJoins
namespace Go.Proofs.Ytcdgfjfomiokmaa.Window
open Go.ChangeShapes Go.WideShapes Go.ChangeAt Go.RowKit

theorem openWindow {H : Type} {enc : TypeId × Value → H} {w : World} {b0 : Nat} {r : Reach} {base : Nat} {spare : Nat → Bool} {held : Bool} {v : Value} {d : DataW H} {p : List MemPlace}
    (hv : Value.okWide Try.prog w r b0 25 v) (h : DataW.Trod enc Try.prog w base spare held 25 v d p) :
    ∃ x y : Int, v = .agg #[.int .i64 x, .int .i64 y] ∧ (Lit.int .i64 x).wf = true ∧ (Lit.int .i64 y).wf = true := by
  obtain ⟨v0, v1, y0, y1, n, rfl, rfl, rfl, h0, h1⟩ := Joins.open_agg2 Try.underlying25 (by kernel_rfl) (by kernel_rfl) hv h
  obtain ⟨x, hx, _, hwx⟩ := DataW.trod_int Try.underlying3 h0
  obtain ⟨y, hy, _, hwy⟩ := DataW.trod_int Try.underlying3 h1
  simp at hx hy
  exact ⟨x, y, by rw [hx, hy], hwx, hwy⟩

/-- Numbers by their two ends. -/
theorem wf_ends {x : Int} (h : (Lit.int .i64 x).wf = true) : -9223372036854775808 ≤ x ∧ x ≤ 9223372036854775807 := by
  simp [Lit.wf, IntKind.min, IntKind.max, IntKind.bits, IntKind.signed] at h
  omega
theorem u8_ends {x : Int} (h : (Lit.int .u8 x).wf = true) : 0 ≤ x ∧ x ≤ 255 := by
  simp [Lit.wf, IntKind.min, IntKind.max, IntKind.bits, IntKind.signed] at h
  omega
theorem i8_ends {x : Int} (h : (Lit.int .i8 x).wf = true) : -128 ≤ x ∧ x ≤ 127 := by
  simp [Lit.wf, IntKind.min, IntKind.max, IntKind.bits, IntKind.signed] at h
  omega

end Go.Proofs.Ytcdgfjfomiokmaa.Window
