import Derived.Test.YteefkijmodcijaaDoorPkFeasLaid
import Derived.Test.YteefkijmodcijaaDoorPkLoadRuns
import Derived.LaidMore
import Derived.OpenShut

/-
  What the rows' two listed variables give a walk; a world in which both are laid.
-/
namespace Go.Proofs.YteefkijmodcijaaDoor.Laid
open Go.ChangeShapes Go.WideShapes Go.RowKit Go.Proofs.YteefkijmodcijaaDoor.Feas Go.Proofs.YteefkijmodcijaaDoor.Load
set_option maxRecDepth 100000

abbrev lst2 : List (String × DataW Unit) := [("errors.errorType", Rows.laid_errors_errorType), ("consign/load.signs", Rows.laid_consign_load_signs)]
theorem gSigns : Tryd.prog.globalNamed "consign/load.signs" = some 0 := by kernel_rfl
theorem tSigns : (Tryd.prog.globals[0]?).map (·.type) = some 140 := by kernel_rfl

theorem hd_of_laid2 {W : World} (h : laidMetH Tryd.prog lst2 W) : Hd W := by
  have h' : laidMet Tryd.prog [("consign/load.signs", Rows.laid_consign_load_signs)] W ∧ handlesMet Tryd.prog [("errors.errorType", Rows.laid_errors_errorType)] W := h
  exact hd_of_laid (show laidMet Tryd.prog [] W ∧ handlesMet Tryd.prog [("errors.errorType", Rows.laid_errors_errorType)] W from ⟨laidMet_nil _ _, h'.2⟩)
/-- The variable's two cells. -/
theorem sg_of_laid2 {W : World} (h : laidMetH Tryd.prog lst2 W) : Sg W := by
  have h' : laidMet Tryd.prog [("consign/load.signs", Rows.laid_consign_load_signs)] W ∧ handlesMet Tryd.prog [("errors.errorType", Rows.laid_errors_errorType)] W := h
  obtain ⟨ps, ⟨g1, t1, cs1, f1, p1, q1, hg1, ht1, hv1, hd1, _, _⟩, _, _⟩ := h'.1
  obtain rfl := Option.some.inj (gSigns.symm.trans hg1)
  obtain rfl := Option.some.inj (tSigns.symm.trans ht1)
  obtain ⟨xs, m1, rfl, hx1, hlen, hn3, hel⟩ := DataW.trod_array Tryd.underlying140 hd1
  have c3 : Tryd.prog.cellsOf 3 = 1 := by kernel_rfl
  have h0 := hel 0 (by decide)
  have h1 := hel 1 (by decide)
  simp only [Prod.mk.injEq, Rows.laid_consign_load_signs, DataW.agg.injEq] at hx1
  match xs, hn3, hx1, h0, h1 with
  | [x0, x1], _, hx1, h0, h1 =>
    simp only [List.map_cons, List.map_nil, List.cons.injEq, and_true] at hx1
    obtain ⟨k, e1, e2, _⟩ := DataW.trod_int Tryd.underlying3 (show DataW.trod _ Tryd.prog W 0 _ false m1 3 _ = some x0 from h0)
    obtain ⟨k2, e3, e4, _⟩ := DataW.trod_int Tryd.underlying3 (show DataW.trod _ Tryd.prog W 0 _ false m1 3 _ = some x1 from h1)
    have hk : k = 1 := by rw [e2] at hx1; simpa using hx1.1.1.symm
    have hk2 : k2 = -1 := by rw [e4] at hx1; simpa using hx1.1.2.symm
    subst hk
    subst hk2
    have v0 := World.var?_cell hg1 hv1 0
    have v1 := World.var?_cell hg1 hv1 1
    obtain ⟨l1⟩ := cs1
    rw [c3] at e1 e3
    match l1, e1, e3 with
    | [], e1, e3 => simp at e1
    | [c], e1, e3 => simp at e3
    | c :: c2 :: _, e1, e3 =>
      simp at e1 e3
      subst e1
      subst e3
      exact ⟨by simpa using v0, by simpa using v1⟩

/-- A world that meets both. -/
noncomputable def laidWorld2 (os : Os) : World :=
  let w0 := laidWorld os
  { w0 with heap := w0.heap.modify 0 fun
      | .cells _ t frozen => .cells #[.int .i64 1, .int .i64 (-1)] t frozen
      | o => o }
theorem laidWorld2_met (os : Os) (args : Array Value) : laidMetH Tryd.prog lst2 ((laidWorld2 os).forCall (fun _ _ => 0) ⟨#[], args, []⟩).memory :=
  laidMetH_of_parts (laidMet_of_run' 8 (by kernel_rfl) (by kernel_rfl)) (by kernel_rfl)

end Go.Proofs.YteefkijmodcijaaDoor.Laid
