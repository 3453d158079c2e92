/-
  Contracts of package order's checks, and of those that answer the same by definition.
-/
import Derived.Test.YtcdgfjfomiokmaaOrderMath
import Derived.Test.YtcdgfjfomiokmaaPlaceDist
import Derived.Test.YtcdgfjfomiokmaaWindowFuncs2
import Derived.Test.YtcdgfjfomiokmaaTail
namespace Go.Proofs.Ytcdgfjfomiokmaa.Order
open Go.RowKit Go.Sort Go.Proofs.Ytcdgfjfomiokmaa.Mem Go.Proofs.Ytcdgfjfomiokmaa.Place Go.Proofs.Ytcdgfjfomiokmaa.Window
set_option linter.unusedVariables false

theorem ret_int {k : IntKind} {a b : Int} (h : a = b) : Ending.returned (.int k a) = .returned (.int k b) := by rw [h]
theorem ret_bool {a b : Bool} (h : a = b) : Ending.returned (.bool a) = .returned (.bool b) := by rw [h]

theorem btw_no1 {n a b : Int} (h : ¬ n ≥ a) : false = btwB n a b := by simp [btwB]; omega
theorem btw_yes1 {n a b : Int} (h : n ≥ a) : decide (n ≤ b) = btwB n a b := by simp [btwB]; omega

theorem between_any (n a b : Int) (w : World) :
    Calls Try.prog 28 #[.int .i64 n, .int .i64 a, .int .i64 b] w fun r w' => r = .returned (.bool (btwB n a b)) ∧ w = w' := by
  by_cases h1 : n ≥ a
  · have hm := Lib.hid (btw_yes1 (b := b) h1)
    go_enter Try.func28, Try.ntmps28
    go_wp2
    go_ret
    exact ⟨ret_bool hm.out, rfl⟩
  · have hm := Lib.hid (btw_no1 (b := b) h1)
    go_enter Try.func28, Try.ntmps28
    go_wp2
    go_ret
    exact ⟨ret_bool hm.out, rfl⟩

theorem firstFault_any (b0 b1 b2 : Bool) (e0 e1 e2 : Int) (g : Nat) (w : World) (h : At w g 63 #[.bool b0, .int .i64 e0, .bool b1, .int .i64 e1, .bool b2, .int .i64 e2]) :
    Calls Try.prog 25 #[.slice (some ⟨g, 0, none⟩) 3 3] w fun r w' => r = .returned (.int .i64 (ff b0 b1 b2 e0 e1 e2)) ∧ Below w.heap.size w w' := by
  have hg := h.inside
  have c0 := h.cell 0
  have c1 := h.cell 1
  have c2 := h.cell 2
  have c3 := h.cell 3
  have c4 := h.cell 4
  have c5 := h.cell 5
  simp at c0 c1 c2 c3 c4 c5
  cases b0
  · go_enter Try.func25, Try.ntmps25
    go_wp2_with fail
    refine wp_loop_rounds 4 ?_
    rw [rounds_succ]
    go_wp2
    go_ret
    exact ⟨ret_int rfl, by repeat (first | exact Below.refl _ _ | refine Below.alloc ?_ (by simp <;> omega) _ | refine Below.setCell ?_ (by simp <;> omega) _)⟩
  cases b1
  · go_enter Try.func25, Try.ntmps25
    go_wp2_with fail
    refine wp_loop_rounds 4 ?_
    rw [rounds_succ]
    go_wp2
    rw [rounds_succ]
    go_wp2
    go_ret
    exact ⟨ret_int rfl, by repeat (first | exact Below.refl _ _ | refine Below.alloc ?_ (by simp <;> omega) _ | refine Below.setCell ?_ (by simp <;> omega) _)⟩
  cases b2
  · go_enter Try.func25, Try.ntmps25
    go_wp2_with fail
    refine wp_loop_rounds 4 ?_
    rw [rounds_succ]
    go_wp2
    rw [rounds_succ]
    go_wp2
    rw [rounds_succ]
    go_wp2
    go_ret
    exact ⟨ret_int rfl, by repeat (first | exact Below.refl _ _ | refine Below.alloc ?_ (by simp <;> omega) _ | refine Below.setCell ?_ (by simp <;> omega) _)⟩
  · go_enter Try.func25, Try.ntmps25
    go_wp2_with fail
    refine wp_loop_rounds 4 ?_
    rw [rounds_succ]
    go_wp2
    rw [rounds_succ]
    go_wp2
    rw [rounds_succ]
    go_wp2
    rw [rounds_succ]
    go_wp2
    go_ret
    exact ⟨ret_int rfl, by repeat (first | exact Below.refl _ _ | refine Below.alloc ?_ (by simp <;> omega) _ | refine Below.setCell ?_ (by simp <;> omega) _)⟩

end Go.Proofs.Ytcdgfjfomiokmaa.Order
