import Derived.Test.YtpefdmkfmcjfnaaPkPlaceMath
import Derived.WalkLawsBesides
import Derived.WalkSpells
import Derived.ProofKit
import Derived.Test.YtpefdmkfmcjfnaaRows
import Derived.BigQuiet
import Derived.Lib.QuietBelow
import Derived.Lib.Hide
import Derived.StillTailTactics
import Derived.Lib.MinMax

namespace Go.Proofs.Ytpefdmkfmcjfnaa.Place
open Go.RowKit
set_option linter.unusedVariables false
theorem ret_int {k : IntKind} {a b : Int} (h : a = b) : Ending.returned (.int k a) = .returned (.int k b) := by rw [h]
theorem ret_bool {a b : Bool} (h : a = b) : Ending.returned (.bool a) = .returned (.bool b) := by rw [h]
theorem side_of {n : Int} (h : 0 ≤ n) : decide (n < 1024) = sideB n := by simp [sideB, h]
theorem side_no {n : Int} (h : n < 0) : false = sideB n := ((sideB_no n).2 (.inl h)).symm
theorem may_no1 {x y : Int} (h : sideB x = false) : mayB (x, y) = false := by simp [mayB, h]
theorem may_yes1 {x y : Int} (h : sideB x = true) : mayB (x, y) = sideB y := by simp [mayB, h]
theorem onSide_any (n : Int) (w : World) :
 Calls Try.prog 69 #[.int .i64 n] w fun e w' => e = .returned (.bool (sideB n)) ∧ w = w' := by
 by_cases h1 : 0 ≤ n
 · go_enter Try.func69, Try.ntmps69
   go_wp2
   go_ret
   exact ⟨ret_bool (side_of (by omega)), rfl⟩
 · go_enter Try.func69, Try.ntmps69
   go_wp2
   go_ret
   exact ⟨ret_bool (side_no (by omega)), rfl⟩
theorem May_any (x y : Int) (w : World) :
 Calls Try.prog 65 #[.agg #[.int .i64 x, .int .i64 y]] w fun e w' => e = .returned (.bool (mayB (x, y))) ∧ Below w.heap.size w w' := by
 cases h1 : sideB x
 · have hm := Lib.hid (may_no1 (y := y) h1)
   go_enter Try.func65, Try.ntmps65
   go_wp2_with (go_at_call 69; refine (onSide_any _ _).mono ?_; rintro e w' ⟨rfl, rfl⟩; rw [h1])
   go_ret
   exact ⟨ret_bool hm.out.symm, (Below.refl _ _).alloc (Nat.le_refl _) _⟩
 · have hm := Lib.hid (may_yes1 (y := y) h1)
   go_enter Try.func65, Try.ntmps65
   go_wp2_with fail
   refine (onSide_any _ _).mono ?_
   rintro e w' ⟨rfl, rfl⟩
   rw [h1]
   go_wp2_with fail
   refine (onSide_any _ _).mono ?_
   rintro e w' ⟨rfl, rfl⟩
   go_wp2
   go_ret
   exact ⟨ret_bool hm.out.symm, (Below.refl _ _).alloc (Nat.le_refl _) _⟩
theorem refMay_any (x y : Int) (w : World) :
 Calls Try.prog 60 #[.agg #[.int .i64 x, .int .i64 y]] w fun e w' => e = .returned (.bool (mayB (x, y))) ∧ Below w.heap.size w w' := by
 by_cases h1 : 0 ≤ x
 · by_cases h2 : x < 1024
   · by_cases h3 : 0 ≤ y
     · have hm := Lib.hid ((may_yes1 (y := y) ((sideB_iff x).2 ⟨h1, h2⟩)).trans (side_of h3).symm)
       go_enter Try.func60, Try.ntmps60
       go_wp2
       go_ret
       exact ⟨ret_bool hm.out.symm, (Below.refl _ _).alloc (Nat.le_refl _) _⟩
     · have hm := Lib.hid ((may_yes1 (y := y) ((sideB_iff x).2 ⟨h1, h2⟩)).trans (side_no (by omega)).symm)
       go_enter Try.func60, Try.ntmps60
       go_wp2
       go_ret
       exact ⟨ret_bool hm.out.symm, (Below.refl _ _).alloc (Nat.le_refl _) _⟩
   · have hm := Lib.hid (may_no1 (y := y) ((sideB_no x).2 (by omega)))
     go_enter Try.func60, Try.ntmps60
     go_wp2
     go_ret
     exact ⟨ret_bool hm.out.symm, (Below.refl _ _).alloc (Nat.le_refl _) _⟩
 · have hm := Lib.hid (may_no1 (y := y) ((sideB_no x).2 (by omega)))
   go_enter Try.func60, Try.ntmps60
   go_wp2
   go_ret
   exact ⟨ret_bool hm.out.symm, (Below.refl _ _).alloc (Nat.le_refl _) _⟩
end Go.Proofs.Ytpefdmkfmcjfnaa.Place
namespace Go.Proofs.Ytpefdmkfmcjfnaa.Window
open Go.RowKit
set_option linter.unusedVariables false
theorem ret_int {k : IntKind} {a b : Int} (h : a = b) : Ending.returned (.int k a) = .returned (.int k b) := by rw [h]
theorem ret_bool {a b : Bool} (h : a = b) : Ending.returned (.bool a) = .returned (.bool b) := by rw [h]
theorem ok_no1 {e l : Int} (h : ¬ 0 ≤ e) : okB e l = false := (okB_no e l).2 (.inl (by omega))
theorem ok_no2 {e l : Int} (h : ¬ e ≤ l) : okB e l = false := (okB_no e l).2 (.inr (.inl (by omega)))
theorem ok_yes2 {e l : Int} (h1 : 0 ≤ e) (h2 : e ≤ l) : okB e l = decide (l ≤ 1048576) := by simp [okB, h1, h2]
theorem May_any (e l : Int) (w : World) :
 Calls Try.prog 66 #[.agg #[.int .i64 e, .int .i64 l]] w fun r w' => r = .returned (.bool (okB e l)) ∧ Below w.heap.size w w' := by
 by_cases h1 : 0 ≤ e
 · by_cases h2 : e ≤ l
   · have hm := Lib.hid (ok_yes2 h1 h2)
     go_enter Try.func66, Try.ntmps66
     go_wp2
     go_ret
     exact ⟨ret_bool hm.out.symm, (Below.refl _ _).alloc (Nat.le_refl _) _⟩
   · have hm := Lib.hid (ok_no2 h2)
     go_enter Try.func66, Try.ntmps66
     go_wp2
     go_ret
     exact ⟨ret_bool hm.out.symm, (Below.refl _ _).alloc (Nat.le_refl _) _⟩
 · have hm := Lib.hid (ok_no1 (l := l) h1)
   go_enter Try.func66, Try.ntmps66
   go_wp2
   go_ret
   exact ⟨ret_bool hm.out.symm, (Below.refl _ _).alloc (Nat.le_refl _) _⟩
end Go.Proofs.Ytpefdmkfmcjfnaa.Window
