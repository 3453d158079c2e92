import Derived.Test.YteefkijmodcijaaDoorPkFeasSomeLaw25

/-
  The contract of the document's Requests.
-/
namespace Go.Proofs.YteefkijmodcijaaDoor.Route
open Go.RowKit Go.Proofs.YteefkijmodcijaaDoor.Mem
set_option linter.unusedVariables false

theorem pick_yes {l : List (Int × Int)} {k : Nat} {s : Int × Int} (h : l[k]? = some s) (e : s.2 = 0) : picksL (l.take (k + 1)) = picksL (l.take k) ++ [s.1] := by rw [take_get h]; simp [picksL, e]
theorem pick_no {l : List (Int × Int)} {k : Nat} {s : Int × Int} (h : l[k]? = some s) (e : s.2 ≠ 0) : picksL (l.take (k + 1)) = picksL (l.take k) := by rw [take_get h]; simp [picksL, e]
theorem picks_le (l : List (Int × Int)) : (picksL l).length ≤ l.length := by
  unfold picksL
  rw [List.length_map]
  exact List.length_filter_le ..
theorem picks_take (l : List (Int × Int)) (k : Nat) : (picksL (l.take k)).length ≤ k := by
  have := picks_le (l.take k)
  rw [List.length_take] at this
  omega
theorem reqs_good {l : List (Int × Int)} (h : checkV l = 0) : reqsL l = picksL l := by
  unfold checkV at h
  unfold reqsL
  split at h
  · omega
  · split at h
    · rename_i h1 h2
      rw [h2, show decide (l.length ≤ 16) = true by simp; omega]
      rfl
    · omega
theorem reqs_bad {l : List (Int × Int)} (h : checkV l ≠ 0) : reqsL l = [] := by
  unfold checkV at h
  unfold reqsL
  split at h
  · rw [show decide (l.length ≤ 16) = false by simp; omega]
    rfl
  · split at h
    · omega
    · rename_i h1 h2
      rw [show isR l = false by simpa using h2, Bool.and_false]
      rfl

end Go.Proofs.YteefkijmodcijaaDoor.Route
