/-
  The contract of package window's 'ifMay' of windows.
-/
import Derived.Test.YtphpkcndaifoiaaWindowAsk
import Derived.Test.YtphpkcndaifoiaaMem
namespace Go.Proofs.Ytphpkcndaifoiaa.Window
open Go.RowKit Go.Proofs.Ytphpkcndaifoiaa.Mem
set_option linter.unusedVariables false

theorem res_wb {fn : Func} {p q : Tmp} (h : fn.results = #[.cell p 47, .tmp q]) {tmps : Array Value} {w : World} {g : Nat} {x y b : Value} (hp : tmps.getD p undef = .pointer (some ⟨g, 0, none⟩)) (hq : tmps.getD q undef = b)
    (c0 : w.cell? ⟨g, 0, none⟩ = some x) (c1 : w.cell? ⟨g, 1, none⟩ = some y) : (results fn tmps).run Try.prog w = .ok (.tuple #[.agg #[x, y], b]) w := by
  have hp' : tmps[p]?.getD undef = .pointer (some ⟨g, 0, none⟩) := by simpa using hp
  have hq' : tmps[q]?.getD undef = b := by simpa using hq
  simp only [results, h]
  go_simp

theorem ret_wb {k : IntKind} {a b c d : Int} {f g : Bool} (h : a = b) (h2 : c = d) (h3 : f = g) : Ending.returned (.tuple #[.agg #[.int k a, .int k c], .bool f]) = .returned (.tuple #[.agg #[.int k b, .int k d], .bool g]) := by rw [h, h2, h3]


end Go.Proofs.Ytphpkcndaifoiaa.Window
