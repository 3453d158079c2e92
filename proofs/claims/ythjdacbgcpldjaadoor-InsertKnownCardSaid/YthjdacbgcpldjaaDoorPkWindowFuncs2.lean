import Derived.Test.YthjdacbgcpldjaaDoorPkSched
import Derived.Test.YthjdacbgcpldjaaDoorPkPlaceDist

/-
  Contracts of package window's calls Shift and Meet.
-/
namespace Go.Proofs.YthjdacbgcpldjaaDoor.Window
open Go.RowKit Go.Sort
open Go.Proofs.YthjdacbgcpldjaaDoor.Mem Go.Proofs.YthjdacbgcpldjaaDoor.Tail
set_option linter.unusedVariables false



theorem wrap64_in {n : Int} (h1 : -9223372036854775808 ≤ n) (h2 : n ≤ 9223372036854775807) : wrap64 n = n := by
  unfold wrap64
  omega

theorem shift_wrap (e l d n : Int) (hn : n = e ∨ n = l) : orNil (okB e l && (decide (-e ≤ d) && decide (d ≤ 1048576 - l))) (wrap64 (n + d)) = orNil (shiftB e l d) (n + d) := by
  cases h : shiftB e l d
  · simp only [shiftB] at h
    rw [h]
    rfl
  · have h2 := (shiftB_iff e l d).1 h
    simp only [shiftB] at h
    rw [h, wrap64_in (by omega) (by omega)]




theorem meet_nil (p q : Bool) (v : Int) (r : Bool) : orNil (p && (q && r)) (orNil (q && r) v) = orNil ((p && q) && r) v := by
  cases p <;> cases q <;> cases r <;> rfl
theorem meet_and (p q r : Bool) : (p && (q && r)) = ((p && q) && r) := by
  cases p <;> cases q <;> cases r <;> rfl


end Go.Proofs.YthjdacbgcpldjaaDoor.Window
