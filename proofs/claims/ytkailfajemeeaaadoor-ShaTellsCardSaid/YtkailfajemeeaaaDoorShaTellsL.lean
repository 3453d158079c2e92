/-
  ShaTells: the sum of a text is the one that the document writes out; works.
-/
import Derived.Test.YtkailfajemeeaaaDoorShaEq
import Derived.Test.YtkailfajemeeaaaDoorShaRefSum
import Derived.Test.YtkailfajemeeaaaDoorShaWorks
namespace Go.Proofs.YtkailfajemeeaaaDoor.Sha
open Go.RowKit Go.Sort Go.Shelf Go.Proofs.YtkailfajemeeaaaDoor.Mem Go.Proofs.YtkailfajemeeaaaDoor.Route
set_option linter.unusedVariables false

set_option maxRecDepth 100000 in
set_option maxHeartbeats 4000000 in
theorem tells_walk (t : ByteArray) (w : World) (hsg : Sg w) : Calls Tryd.prog 3 #[.string t] w fun e w' => e = .returned (.bool true) ∧ Below w.heap.size w w' := by
  obtain ⟨m, hm⟩ : ∃ m : Nat, min (t.size : Int) 400 = m := ⟨min t.size 400, by omega⟩
  have hm1 : m ≤ t.size := by omega
  have hm2 : m ≤ 400 := by omega
  have hx := size_cut t 0 m hm1
  go_enter Tryd.func3, Tryd.ntmps3
  go_upto_region 2 with fail
  have hs : (t.extract 0 m).size ≤ 400 := by omega
  generalize t.extract 0 m = c at hs ⊢
  clear hx hm hm1 hm2
  go_wp2_with fail
  refine (psum_any c (by omega) w hsg).mono ?_
  rintro e w1 ⟨rfl, hb1⟩
  have hsg1 := hsg.on hb1
  go_wp2_with fail
  refine (refSum_any c (by omega) w1).mono ?_
  rintro e w2 ⟨rfl, hb2⟩
  have hsg2 := hsg1.on hb2
  go_wp2_with fail
  rw [eq_sum]
  simp only [Result.andThen_ok]
  go_wp2_with fail
  refine (works_any w2 hsg2).mono ?_
  rintro e w3 ⟨rfl, hb3⟩
  have hb := (hb1.trans (hb2.mono hb1.size)).trans (hb3.mono (Nat.le_trans hb1.size hb2.size))
  clear hb1 hb2 hb3 hsg hsg1 hsg2
  go_wp2
  go_ret
  exact ⟨rfl, hb⟩

end Go.Proofs.YtkailfajemeeaaaDoor.Sha
