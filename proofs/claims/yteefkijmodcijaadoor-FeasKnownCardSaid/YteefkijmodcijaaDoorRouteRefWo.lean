/-
  The contracts of the document's Without and At.
-/
import Derived.Test.YteefkijmodcijaaDoorRouteSame
namespace Go.Proofs.YteefkijmodcijaaDoor.Route
open Go.RowKit Go.Proofs.YteefkijmodcijaaDoor.Mem
set_option linter.unusedVariables false

theorem wo_succ_no {l : List (Int × Int)} {k : Nat} {s : Int × Int} {r : Int} (h : l[k]? = some s) (hr : s.1 = r) : woL r (l.take (k + 1)) = woL r (l.take k) := by rw [take_get h, wo_append]; simp [woL, hr]
theorem wo_succ_yes {l : List (Int × Int)} {k : Nat} {s : Int × Int} {r : Int} (h : l[k]? = some s) (hr : s.1 ≠ r) : woL r (l.take (k + 1)) = woL r (l.take k) ++ [s] := by rw [take_get h, wo_append]; simp [woL, hr]
theorem wo_take_le (r : Int) (l : List (Int × Int)) (k : Nat) : (woL r (l.take k)).length ≤ k := by
  have := wo_length r (l.take k)
  rw [List.length_take] at this
  omega
theorem nums_wo {r : Int} {l : List (Int × Int)} (h : Nums l) : Nums (woL r l) := fun s hs => h s (List.mem_filter.1 hs).1


theorem ix_here {l : List (Int × Int)} {k : Nat} {s x : Int × Int} (h : l[k]? = some x) (e : x = s) : (k : Int) = ixF s k (l.drop k) := by
  have hlt := (List.getElem?_eq_some_iff.1 h)
  obtain ⟨hlt, hx⟩ := hlt
  rw [List.drop_eq_getElem_cons hlt, hx, ixF_yes e]
theorem ix_past {l : List (Int × Int)} {k : Nat} {s x : Int × Int} (h : l[k]? = some x) (e : x ≠ s) : ixF s (k + 1) (l.drop (k + 1)) = ixF s k (l.drop k) := by
  obtain ⟨hlt, hx⟩ := List.getElem?_eq_some_iff.1 h
  rw [List.drop_eq_getElem_cons hlt, hx, ixF_no e]
theorem ret_two {a b c d : Int} (h : a = b) (h2 : c = d) : Ending.returned (.tuple #[.int .i64 a, .int .i64 c]) = .returned (.tuple #[.int .i64 b, .int .i64 d]) := by rw [h, h2]


end Go.Proofs.YteefkijmodcijaaDoor.Route
