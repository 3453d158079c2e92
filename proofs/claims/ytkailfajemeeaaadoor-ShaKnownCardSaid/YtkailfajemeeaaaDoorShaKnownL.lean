/-
  ShaKnown: a nil hash; the chapter's sum of the fox.
-/
import Derived.Test.YtkailfajemeeaaaDoorShaEq
import Derived.Test.YtkailfajemeeaaaDoorShaWorks
namespace Go.Proofs.YtkailfajemeeaaaDoor.Sha
open Go.RowKit Go.Sort Go.Shelf Go.Proofs.YtkailfajemeeaaaDoor.Mem Go.Proofs.YtkailfajemeeaaaDoor.Route
set_option linter.unusedVariables false

theorem eqZ (w : World) : (Op.equalIn 10000 23 (.agg (padB 32 []).toArray) (.agg #[.int .u8 0, .int .u8 0, .int .u8 0, .int .u8 0, .int .u8 0, .int .u8 0, .int .u8 0, .int .u8 0, .int .u8 0, .int .u8 0, .int .u8 0, .int .u8 0, .int .u8 0, .int .u8 0, .int .u8 0, .int .u8 0, .int .u8 0, .int .u8 0, .int .u8 0, .int .u8 0, .int .u8 0, .int .u8 0, .int .u8 0, .int .u8 0, .int .u8 0, .int .u8 0, .int .u8 0, .int .u8 0, .int .u8 0, .int .u8 0, .int .u8 0, .int .u8 0])).run Tryd.prog w = .ok true w :=
  (eqD (List.replicate 32 0) (List.replicate 32 0) (by simp) (by simp) w).trans (by simp)

set_option maxRecDepth 100000 in
set_option maxHeartbeats 4000000 in
theorem known_walk (w : World) (hsg : Sg w) : Calls Tryd.prog 7 #[] w fun e w' => e = .returned (.bool true) ∧ Below w.heap.size w w' := by
  have hps := fun w h => psum_any ⟨#[84, 104, 101, 32, 113, 117, 105, 99, 107, 32, 98, 114, 111, 119, 110, 32, 102, 111, 120, 32, 106, 117, 109, 112, 115, 32, 111, 118, 101, 114, 32, 116, 104, 101, 32, 108, 97, 122, 121, 32, 100, 111, 103]⟩ (by decide) w h
  rw [bytes_fox] at hps
  go_enter Tryd.func7, Tryd.ntmps7
  go_wp2_with fail
  refine (write_nil _ w).mono ?_
  rintro e w1 ⟨⟨v, rfl⟩, hb1⟩
  have hsg1 := hsg.on hb1
  go_wp2_with fail
  refine (works_any _ hsg1).mono ?_
  rintro e w2 ⟨rfl, hb2⟩
  have hsg2 := hsg1.on hb2
  go_wp2_with fail
  refine (hps w2 hsg2).mono ?_
  clear hps
  rintro e w3 ⟨rfl, hb3⟩
  go_wp2_with fail
  refine (dig_fox w3).mono ?_
  rintro e w4 ⟨rfl, hb4⟩
  go_wp2_with fail
  refine (digest_nil w4).mono ?_
  rintro e w5 ⟨rfl, hb5⟩
  have hb := (((hb1.trans (hb2.mono hb1.size)).trans (hb3.mono (Nat.le_trans hb1.size hb2.size))).trans (hb4.mono (Nat.le_trans hb1.size (Nat.le_trans hb2.size hb3.size)))).trans (hb5.mono (Nat.le_trans hb1.size (Nat.le_trans hb2.size (Nat.le_trans hb3.size hb4.size))))
  clear hb1 hb2 hb3 hb4 hb5 hsg hsg1 hsg2
  go_wp2_with fail
  rw [eqZ]
  simp only [Result.andThen_ok]
  go_wp2_with fail
  refine (copy_nil w5).mono ?_
  rintro e w6 ⟨rfl, rfl⟩
  go_wp2
  go_ret
  exact ⟨rfl, hb⟩

end Go.Proofs.YtkailfajemeeaaaDoor.Sha
