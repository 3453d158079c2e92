import Derived.Test.YthjdacbgcpldjaaDoorRows
import Derived.Test.YthjdacbgcpldjaaDoorPkPlaceMath
import Derived.WalkKit
import Derived.WalkSpells
import Derived.ProofKit
import Derived.Outline
import Derived.Deep.QuietTactic
import Derived.BigQuiet
import Derived.Lib.QuietBelow
import Derived.StillTailTactics
import Derived.WalkLawsBesides
import Derived.Lib.Hide
import Derived.Lib.MinMax

/-
  Contracts of package window's functions.
-/
namespace Go.Proofs.YthjdacbgcpldjaaDoor.Window
open Go.RowKit
set_option linter.unusedVariables false

theorem ret_int {k : IntKind} {a b : Int} (h : a = b) : Ending.returned (.int k a) = .returned (.int k b) := by rw [h]
theorem ret_bool {a b : Bool} (h : a = b) : Ending.returned (.bool a) = .returned (.bool b) := by rw [h]

theorem below_drewN {B : Nat} {a w : World} (h : Below B a w) (n : Nat) : Below B a (w.drewN n) := ⟨h.os, h.tape, h.output, h.size, h.block⟩

theorem ok_no1 {e l : Int} (h : ¬ 0 ≤ e) : okB e l = false := (okB_no e l).2 (.inl (by omega))
theorem ok_no2 {e l : Int} (h : ¬ e ≤ l) : okB e l = false := (okB_no e l).2 (.inr (.inl (by omega)))
theorem ok_yes2 {e l : Int} (h1 : 0 ≤ e) (h2 : e ≤ l) : okB e l = decide (l ≤ 1048576) := by simp [okB, h1, h2]

theorem May_any (e l : Int) (w : World) :
    Calls Tryd.prog 87 #[.agg #[.int .i64 e, .int .i64 l]] w fun r w' => r = .returned (.bool (okB e l)) ∧ Below w.heap.size w w' := by
  by_cases h1 : 0 ≤ e
  · by_cases h2 : e ≤ l
    · have hm := Lib.hid (ok_yes2 h1 h2)
      go_enter Tryd.func87, Tryd.ntmps87
      go_wp2
      go_ret
      exact ⟨ret_bool hm.out.symm, (Below.refl _ _).alloc (Nat.le_refl _) _⟩
    · have hm := Lib.hid (ok_no2 h2)
      go_enter Tryd.func87, Tryd.ntmps87
      go_wp2
      go_ret
      exact ⟨ret_bool hm.out.symm, (Below.refl _ _).alloc (Nat.le_refl _) _⟩
  · have hm := Lib.hid (ok_no1 (l := l) h1)
    go_enter Tryd.func87, Tryd.ntmps87
    go_wp2
    go_ret
    exact ⟨ret_bool hm.out.symm, (Below.refl _ _).alloc (Nat.le_refl _) _⟩

theorem refMay_any (e l : Int) (w : World) :
    Calls Tryd.prog 110 #[.agg #[.int .i64 e, .int .i64 l]] w fun r w' => r = .returned (.bool (okB e l)) ∧ Below w.heap.size w w' := by
  by_cases h1 : 0 ≤ e
  · by_cases h2 : e ≤ l
    · have hm := Lib.hid (ok_yes2 h1 h2)
      go_enter Tryd.func110, Tryd.ntmps110
      go_wp2
      go_ret
      exact ⟨ret_bool hm.out.symm, (Below.refl _ _).alloc (Nat.le_refl _) _⟩
    · have hm := Lib.hid (ok_no2 h2)
      go_enter Tryd.func110, Tryd.ntmps110
      go_wp2
      go_ret
      exact ⟨ret_bool hm.out.symm, (Below.refl _ _).alloc (Nat.le_refl _) _⟩
  · have hm := Lib.hid (ok_no1 (l := l) h1)
    go_enter Tryd.func110, Tryd.ntmps110
    go_wp2
    go_ret
    exact ⟨ret_bool hm.out.symm, (Below.refl _ _).alloc (Nat.le_refl _) _⟩

theorem in_no1 {e l t : Int} (h : ¬ t ≥ e) : (false : Bool) = (decide (e ≤ t) && decide (t ≤ l)) := by simp; omega
theorem in_yes1 {e l t : Int} (h : t ≥ e) : decide (t ≤ l) = (decide (e ≤ t) && decide (t ≤ l)) := by simp; omega

theorem has_any (e l t : Int) (w : World) :
    Calls Tryd.prog 93 #[.agg #[.int .i64 e, .int .i64 l], .int .i64 t] w fun r w' => r = .returned (.bool (decide (e ≤ t) && decide (t ≤ l))) ∧ w.alloc (.cells #[.int .i64 e, .int .i64 l] 158) = w' := by
  by_cases h1 : t ≥ e
  · have hm := Lib.hid (in_yes1 (l := l) h1)
    go_enter Tryd.func93, Tryd.ntmps93
    go_wp2
    go_ret
    exact ⟨ret_bool hm.out, rfl⟩
  · have hm := Lib.hid (in_no1 (l := l) h1)
    go_enter Tryd.func93, Tryd.ntmps93
    go_wp2
    go_ret
    exact ⟨ret_bool hm.out, rfl⟩

end Go.Proofs.YthjdacbgcpldjaaDoor.Window
