/-
  What the rows' two listed variables give a walk; a world in which both are laid.
-/
import Derived.Test.YtkailfajemeeaaaDoorRows
import Derived.Test.YtkailfajemeeaaaDoorTie
import Derived.Test.YtkailfajemeeaaaDoorCards
import Derived.Test.YtkailfajemeeaaaDoorClose
import Derived.Test.YtkailfajemeeaaaDoorShaRound
import Derived.ChangeSame
import Derived.ChangeVars
import Derived.JoinedOf
import Derived.RowKit
import Derived.RowKitTokens
import Derived.LaidLaws
import Derived.LaidHandle
import Derived.LaidMore
import Derived.OpenShut
import Derived.Stop.Joined
import Derived.SevenTiedAt
namespace Go.Proofs.YtkailfajemeeaaaDoor.Laid
open Go.ChangeShapes Go.WideShapes Go.RowKit Go.Proofs.YtkailfajemeeaaaDoor.Sha
set_option maxRecDepth 100000

abbrev lst : List (String × DataW Unit) := [("consign/sha.first", Rows.laid_consign_sha_first), ("consign/sha.constants", Rows.laid_consign_sha_constants)]
theorem gFirst : Tryd.prog.globalNamed "consign/sha.first" = some 0 := by kernel_rfl
theorem tFirst : (Tryd.prog.globals[0]?).map (·.type) = some 46 := by kernel_rfl
theorem gCons : Tryd.prog.globalNamed "consign/sha.constants" = some 1 := by kernel_rfl
theorem tCons : (Tryd.prog.globals[1]?).map (·.type) = some 63 := by kernel_rfl
def litOf (y : Wd) : DataW Unit := .lit (.int .u32 (y.toNat : Int))
theorem first_lits : (Rows.laid_consign_sha_first : DataW Unit) = .agg (hT.map litOf) := by kernel_rfl
theorem cons_lits : (Rows.laid_consign_sha_constants : DataW Unit) = .agg (kT.map litOf) := by kernel_rfl

/-- The door's own heap meets the condition. -/
theorem door_met (os : Os) (args : Array Value) : laidMetH Tryd.prog lst ((World.doorLaid Tryd.prog 400 os).forCall (fun _ _ => 0) ⟨#[], args, []⟩).memory :=
  laidMetH_of_parts3 (fuel := 8) (laidMet_of_run' 8 (by kernel_rfl) (by kernel_rfl)) (by kernel_rfl) (by kernel_rfl)

/-- An array of words that reads as these words holds them. -/
theorem words_laid {enc : TypeId × Value → Unit} {W : World} {t : TypeId} {n base fuel : Nat} {spare : Nat → Bool} {held : Bool} {cs : List Value} {d : DataW Unit} {p : List MemPlace} {ws : List Wd}
    (ht : Tryd.prog.underlying t = some (.array n 39)) (hd : DataW.trod enc Tryd.prog W base spare held fuel t cs = some (d, p)) (hx : d = .agg (ws.map litOf)) (i : Nat) (y : Wd) (hy : ws[i]? = some y) : cs[i]? = some (u32V y) := by
  obtain ⟨xs, m, rfl, hx1, hlen, hn, hel⟩ := DataW.trod_array ht hd
  have c1 : Tryd.prog.cellsOf 39 = 1 := by kernel_rfl
  simp only [Prod.mk.injEq] at hx1
  rw [hx] at hx1
  have he := DataW.agg.inj hx1.1
  have hi : (xs.map (·.1))[i]? = some (litOf y) := by rw [← he, List.getElem?_map, hy]; rfl
  rw [List.getElem?_map] at hi
  obtain ⟨x, hxi, hxl⟩ := Option.map_eq_some_iff.1 hi
  have hin : i < n := by have := (List.getElem?_eq_some_iff.1 hxi).1; omega
  have h1 := hel i hin
  rw [c1, Nat.mul_one, hxi] at h1
  obtain ⟨k, e1, rfl, -⟩ := DataW.trod_int Tryd.underlying39 h1
  have hk : k = (y.toNat : Int) := by simpa [litOf] using hxl
  subst hk
  have h2 : (List.take 1 (List.drop i cs))[0]? = some (u32V y) := by rw [e1]; rfl
  rw [List.getElem?_take_of_lt (by omega), List.getElem?_drop] at h2
  simpa using h2

/-- The variables' cells. -/
theorem sg_of_laid {W : World} (h : laidMetH Tryd.prog lst W) : Sg W := by
  rw [MakeChecks.laidMetH_plain _ _ _ (by kernel_rfl)] at h
  obtain ⟨ps, ⟨g1, t1, cs1, f1, p1, q1, hg1, ht1, hv1, hd1, ⟨g2, t2, cs2, f2, p2, q2, hg2, ht2, hv2, hd2, _, _⟩, _⟩, _, _⟩ := h
  obtain rfl := Option.some.inj (gFirst.symm.trans hg1)
  obtain rfl := Option.some.inj (tFirst.symm.trans ht1)
  obtain rfl := Option.some.inj (gCons.symm.trans hg2)
  obtain rfl := Option.some.inj (tCons.symm.trans ht2)
  refine ⟨fun i x hx => ?_, fun i x hx => ?_⟩
  · rw [World.var?_cell hg1 hv1 i]
    simpa using words_laid Tryd.underlying46 hd1 first_lits i x hx
  · rw [World.var?_cell hg2 hv2 i]
    simpa using words_laid Tryd.underlying63 hd2 cons_lits i x hx

end Go.Proofs.YtkailfajemeeaaaDoor.Laid
