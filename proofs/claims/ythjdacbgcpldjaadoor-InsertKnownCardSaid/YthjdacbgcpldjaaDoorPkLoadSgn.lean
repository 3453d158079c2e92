import Derived.Test.YthjdacbgcpldjaaDoorRows
import Derived.Test.YthjdacbgcpldjaaDoorTie
import Derived.Test.YthjdacbgcpldjaaDoorCards
import Derived.Test.YthjdacbgcpldjaaDoorPkClose
import Derived.Test.YthjdacbgcpldjaaDoorPkLoadRuns
import Derived.ChangeSame
import Derived.ChangeVars
import Derived.JoinedOf
import Derived.RowKit
import Derived.RowKitTokens
import Derived.LaidLaws
import Derived.LaidHandle
import Derived.LaidMore
import Derived.OpenShut
import Derived.Stop.Joined
import Derived.SevenTiedAt

/-
  What the rows' listed variable gives a walk; a world in which it is laid.
-/
namespace Go.Proofs.YthjdacbgcpldjaaDoor.Laid
open Go.ChangeShapes Go.WideShapes Go.RowKit Go.Proofs.YthjdacbgcpldjaaDoor.Load
set_option maxRecDepth 100000

abbrev lst : List (String × DataW Unit) := [("consign/load.signs", Rows.laid_consign_load_signs)]
theorem gSigns : Tryd.prog.globalNamed "consign/load.signs" = some 0 := by kernel_rfl
theorem tSigns : (Tryd.prog.globals[0]?).map (·.type) = some 41 := by kernel_rfl

/-- The door's own heap meets the condition. -/
theorem door_met (os : Os) (args : Array Value) : laidMetH Tryd.prog lst ((World.doorLaid Tryd.prog 400 os).forCall (fun _ _ => 0) ⟨#[], args, []⟩).memory :=
  laidMetH_of_parts3 (fuel := 8) (laidMet_of_run' 8 (by kernel_rfl) (by kernel_rfl)) (by kernel_rfl) (by kernel_rfl)

/-- The variable's two cells. -/
theorem sg_of_laid {W : World} (h : laidMetH Tryd.prog lst W) : Sg W := by
  rw [MakeChecks.laidMetH_plain _ _ _ (by kernel_rfl)] at h
  obtain ⟨ps, ⟨g1, t1, cs1, f1, p1, q1, hg1, ht1, hv1, hd1, _, _⟩, _, _⟩ := h
  obtain rfl := Option.some.inj (gSigns.symm.trans hg1)
  obtain rfl := Option.some.inj (tSigns.symm.trans ht1)
  obtain ⟨xs, m1, rfl, hx1, hlen, hn3, hel⟩ := DataW.trod_array Tryd.underlying41 hd1
  have c3 : Tryd.prog.cellsOf 3 = 1 := by kernel_rfl
  have h0 := hel 0 (by decide)
  have h1 := hel 1 (by decide)
  simp only [Prod.mk.injEq, Rows.laid_consign_load_signs, DataW.agg.injEq] at hx1
  match xs, hn3, hx1, h0, h1 with
  | [x0, x1], _, hx1, h0, h1 =>
    simp only [List.map_cons, List.map_nil, List.cons.injEq, and_true] at hx1
    obtain ⟨k, e1, e2, _⟩ := DataW.trod_int Tryd.underlying3 (show DataW.trod _ Tryd.prog W 0 _ false m1 3 _ = some x0 from h0)
    obtain ⟨k2, e3, e4, _⟩ := DataW.trod_int Tryd.underlying3 (show DataW.trod _ Tryd.prog W 0 _ false m1 3 _ = some x1 from h1)
    have hk : k = 1 := by rw [e2] at hx1; simpa using hx1.1.1.symm
    have hk2 : k2 = -1 := by rw [e4] at hx1; simpa using hx1.1.2.symm
    subst hk
    subst hk2
    have v0 := World.var?_cell hg1 hv1 0
    have v1 := World.var?_cell hg1 hv1 1
    obtain ⟨l1⟩ := cs1
    rw [c3] at e1 e3
    match l1, e1, e3 with
    | [], e1, e3 => simp at e1
    | [c], e1, e3 => simp at e3
    | c :: c2 :: _, e1, e3 =>
      simp at e1 e3
      subst e1
      subst e3
      exact ⟨by simpa using v0, by simpa using v1⟩

end Go.Proofs.YthjdacbgcpldjaaDoor.Laid
