import Derived.Test.YteefkijmodcijaaDoorPkLoadProf

/-
  The contracts of package load's Peak and Fits.
-/
namespace Go.Proofs.YteefkijmodcijaaDoor.Load
open Go.RowKit Go.Shelf Go.Proofs.YteefkijmodcijaaDoor.Mem Go.Proofs.YteefkijmodcijaaDoor.Route Go.Proofs.YteefkijmodcijaaDoor.When Go.Proofs.YteefkijmodcijaaDoor.Up
set_option linter.unusedVariables false

attribute [local go_sem] Oper.semAt_some

theorem ret_ii {k j : IntKind} {a b c d : Int} (h : a = b) (h2 : c = d) : Ending.returned (.tuple #[.int k a, .int j c]) = .returned (.tuple #[.int k b, .int j d]) := by rw [h, h2]

structure PeakI (w : World) (p : Nat) (vl vt : Value) (pre : List (Int × Int)) (W : World) : Prop where
  top : At W p 3 #[.int .i64 (peakL (pre.map (·.2)))]
  hl : At W (p + 1) 28 #[vl]
  ht : At W (p + 2) 29 #[vt]
  below : Below w.heap.size w W
theorem PeakI.old {w : World} {p : Nat} {vl vt : Value} {m : Nat} (hm : w.heap.size ≤ m) : Old m (PeakI w p vl vt) := by
  rintro pre A A' row h hg hr
  exact ⟨cellsOld h.top hg hr, cellsOld h.hl hg hr, cellsOld h.ht hg hr, h.below.grown hg h.below.size (fun k e => by have := (hr k e).1; omega)⟩
theorem PeakI.next {w : World} {p : Nat} {vl vt : Value} {pre : List (Int × Int)} {W : World} (h : PeakI w p vl vt pre W) (y : Int × Int) (hp : w.heap.size ≤ p) (X : Int) (hX : X = max (peakL (pre.map (·.2))) y.2) : PeakI w p vl vt (pre ++ [y]) (W.setCell ⟨p, 0, none⟩ (.int .i64 X)) := by
  refine ⟨?_, h.hl.far (by omega) _ _, h.ht.far (by omega) _ _, h.below.setCell (by simp; omega) _⟩
  have := h.top.put 0 (.int .i64 X)
  rw [List.map_append, List.map_singleton, peakL_snoc, ← hX]
  simpa using this


end Go.Proofs.YteefkijmodcijaaDoor.Load
