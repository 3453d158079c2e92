/-
  The contracts of 'Same' and 'ints': are both rows alike?
-/
import Derived.Test.YteefkijmodcijaaDoorRouteRef
namespace Go.Proofs.YteefkijmodcijaaDoor.Route
open Go.RowKit Go.Proofs.YteefkijmodcijaaDoor.Mem
set_option linter.unusedVariables false

theorem unlike_at {α : Type} [DecidableEq α] {xs ys : List α} {k : Nat} {s t : α} (hs : xs[k]? = some s) (ht : ys[k]? = some t) (h : s ≠ t) : decide (xs = ys) = false := by
  simp only [decide_eq_false_iff_not]
  rintro rfl
  rw [hs] at ht
  cases ht
  exact h rfl
theorem unlike_len {α : Type} [DecidableEq α] {xs ys : List α} (h : xs.length ≠ ys.length) : decide (xs = ys) = false := by
  simp only [decide_eq_false_iff_not]
  rintro rfl
  exact h rfl
theorem alike_all {α : Type} [DecidableEq α] {xs ys : List α} {N : Nat} (h1 : xs.length = N) (h2 : ys.length = N) (h : xs.take N = ys.take N) : decide (xs = ys) = true := by
  rw [← h1, List.take_length, h1, ← h2, List.take_length] at h
  simpa using h
theorem take_getT {α : Type} {l : List α} {k : Nat} {s : α} (h : l[k]? = some s) : l.take (k + 1) = l.take k ++ [s] := by rw [List.take_add_one, h]; rfl
theorem alike_succ {α : Type} {xs ys : List α} {k : Nat} {s t : α} (hs : xs[k]? = some s) (ht : ys[k]? = some t) (h : xs.take k = ys.take k) (e : s = t) : xs.take (k + 1) = ys.take (k + 1) := by
  rw [take_getT hs, take_getT ht, h, e]



end Go.Proofs.YteefkijmodcijaaDoor.Route
