import Derived.Test.YthjdacbgcpldjaaDoorRows
import Derived.Test.YthjdacbgcpldjaaDoorPkPlaceMath
import Derived.WalkKit
import Derived.WalkSpells
import Derived.ProofKit
import Derived.Outline
import Derived.Deep.QuietTactic
import Derived.BigQuiet
import Derived.Lib.QuietBelow
import Derived.StillTailTactics
import Derived.WalkLawsBesides
import Derived.Lib.Hide

/-
  Contracts of package place's small functions, and of those that answer the same by definition.
-/
namespace Go.Proofs.YthjdacbgcpldjaaDoor.Place
open Go.RowKit
set_option linter.unusedVariables false

theorem ret_int {k : IntKind} {a b : Int} (h : a = b) : Ending.returned (.int k a) = .returned (.int k b) := by rw [h]
theorem ret_bool {a b : Bool} (h : a = b) : Ending.returned (.bool a) = .returned (.bool b) := by rw [h]
theorem ret_place {k : IntKind} {a b c d : Int} (h : a = b) (h2 : c = d) : Ending.returned (.agg #[.int k a, .int k c]) = .returned (.agg #[.int k b, .int k d]) := by rw [h, h2]

theorem below_drewN {B : Nat} {a w : World} (h : Below B a w) (n : Nat) : Below B a (w.drewN n) := ⟨h.os, h.tape, h.output, h.size, h.block⟩

theorem side_of {n : Int} (h : 0 ≤ n) : decide (n < 1024) = sideB n := by simp [sideB, h]
theorem side_no {n : Int} (h : n < 0) : false = sideB n := ((sideB_no n).2 (.inl h)).symm
theorem may_no1 {x y : Int} (h : sideB x = false) : mayB (x, y) = false := by simp [mayB, h]
theorem may_yes1 {x y : Int} (h : sideB x = true) : mayB (x, y) = sideB y := by simp [mayB, h]
theorem gap_lt {a b : Int} (h : a < b) : gap a b = b - a := by simp [gap, h]
theorem gap_ge {a b : Int} (h : ¬ a < b) : gap a b = a - b := by simp [gap, h]

theorem gap_side {a b : Int} (ha : 0 ≤ a ∧ a < 1024) (hb : 0 ≤ b ∧ b < 1024) : 0 ≤ gap a b ∧ gap a b < 1024 := by unfold gap; split <;> omega

theorem onSide_any (n : Int) (w : World) :
    Calls Tryd.prog 101 #[.int .i64 n] w fun e w' => e = .returned (.bool (sideB n)) ∧ w = w' := by
  by_cases h1 : 0 ≤ n
  · go_enter Tryd.func101, Tryd.ntmps101
    go_wp2
    go_ret
    exact ⟨ret_bool (side_of (by omega)), rfl⟩
  · go_enter Tryd.func101, Tryd.ntmps101
    go_wp2
    go_ret
    exact ⟨ret_bool (side_no (by omega)), rfl⟩

theorem May_any (x y : Int) (w : World) :
    Calls Tryd.prog 80 #[.agg #[.int .i64 x, .int .i64 y]] w fun e w' => e = .returned (.bool (mayB (x, y))) ∧ Below w.heap.size w w' := by
  cases h1 : sideB x
  · have hm := Lib.hid (may_no1 (y := y) h1)
    go_enter Tryd.func80, Tryd.ntmps80
    go_wp2_with (go_at_call 101; refine (onSide_any _ _).mono ?_; rintro e w' ⟨rfl, rfl⟩; rw [h1])
    go_ret
    exact ⟨ret_bool hm.out.symm, (Below.refl _ _).alloc (Nat.le_refl _) _⟩
  · have hm := Lib.hid (may_yes1 (y := y) h1)
    go_enter Tryd.func80, Tryd.ntmps80
    go_wp2_with fail
    refine (onSide_any _ _).mono ?_
    rintro e w' ⟨rfl, rfl⟩
    rw [h1]
    go_wp2_with fail
    refine (onSide_any _ _).mono ?_
    rintro e w' ⟨rfl, rfl⟩
    go_wp2
    go_ret
    exact ⟨ret_bool hm.out.symm, (Below.refl _ _).alloc (Nat.le_refl _) _⟩

theorem refMay_any (x y : Int) (w : World) :
    Calls Tryd.prog 94 #[.agg #[.int .i64 x, .int .i64 y]] w fun e w' => e = .returned (.bool (mayB (x, y))) ∧ Below w.heap.size w w' := by
  by_cases h1 : 0 ≤ x
  · by_cases h2 : x < 1024
    · by_cases h3 : 0 ≤ y
      · have hm := Lib.hid ((may_yes1 (y := y) ((sideB_iff x).2 ⟨h1, h2⟩)).trans (side_of h3).symm)
        go_enter Tryd.func94, Tryd.ntmps94
        go_wp2
        go_ret
        exact ⟨ret_bool hm.out.symm, (Below.refl _ _).alloc (Nat.le_refl _) _⟩
      · have hm := Lib.hid ((may_yes1 (y := y) ((sideB_iff x).2 ⟨h1, h2⟩)).trans (side_no (by omega)).symm)
        go_enter Tryd.func94, Tryd.ntmps94
        go_wp2
        go_ret
        exact ⟨ret_bool hm.out.symm, (Below.refl _ _).alloc (Nat.le_refl _) _⟩
    · have hm := Lib.hid (may_no1 (y := y) ((sideB_no x).2 (by omega)))
      go_enter Tryd.func94, Tryd.ntmps94
      go_wp2
      go_ret
      exact ⟨ret_bool hm.out.symm, (Below.refl _ _).alloc (Nat.le_refl _) _⟩
  · have hm := Lib.hid (may_no1 (y := y) ((sideB_no x).2 (by omega)))
    go_enter Tryd.func94, Tryd.ntmps94
    go_wp2
    go_ret
    exact ⟨ret_bool hm.out.symm, (Below.refl _ _).alloc (Nat.le_refl _) _⟩

end Go.Proofs.YthjdacbgcpldjaaDoor.Place
