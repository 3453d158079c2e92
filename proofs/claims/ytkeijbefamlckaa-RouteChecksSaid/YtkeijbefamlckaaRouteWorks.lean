/-
  The laws' own 'works': the chapter's examples hold.
-/
import Derived.Test.YtkeijbefamlckaaRouteLaid
namespace Go.Proofs.Ytkeijbefamlckaa.Route
open Go.RowKit Go.Proofs.Ytkeijbefamlckaa.Mem
set_option linter.unusedVariables false

set_option maxRecDepth 100000 in
set_option maxHeartbeats 4000000 in
theorem works_any (w : World) : Calls Try.prog 15 #[] w fun e w' => e = .returned (.bool true) ∧ Below w.heap.size w w' := by
  have hB0 := Below.refl w.heap.size w
  go_enter Try.func15, Try.ntmps15
  go_wp2_with (first | (go_at_call 23; refine (p_any _ _).mono ?_; rintro e w' ⟨rfl, rfl⟩) | (go_at_call 24; refine (d_any _ _).mono ?_; rintro e w' ⟨rfl, rfl⟩) | (go_at_call 25; refine (row_any _ _ _ _).mono ?_; rintro e w' ⟨rfl, rfl⟩))
  refine Calls.mono (Check_any _ [(3, 0), (1, 0), (3, 1), (1, 1)] (by decide) (nums_of (by decide +kernel)) _ ?r1x1) ?p1
  case r1x1 => exact Row.laid (by simp) rfl rfl (by decide)
  rintro e w1 ⟨rfl, hb1⟩
  rw [show checkV [(3, 0), (1, 0), (3, 1), (1, 1)] = 0 by decide +kernel]
  have hB1 : Below w.heap.size w w1 := bStep (by repeat (first | exact hB0 | refine bAlloc ?_ _)) hb1
  clear hb1
  go_wp2_with (first | (go_at_call 23; refine (p_any _ _).mono ?_; rintro e w' ⟨rfl, rfl⟩) | (go_at_call 24; refine (d_any _ _).mono ?_; rintro e w' ⟨rfl, rfl⟩) | (go_at_call 25; refine (row_any _ _ _ _).mono ?_; rintro e w' ⟨rfl, rfl⟩))
  refine Calls.mono (Requests_any _ [(3, 0), (1, 0), (3, 1), (1, 1)] (by decide) (nums_of (by decide)) _ ?r1x2) ?p2
  case r1x2 => exact Row.laid (by simp) rfl rfl (by decide)
  rintro e w2 ⟨⟨v2, rfl, hv2⟩, hb2⟩
  have hB2 : Below w.heap.size w w2 := bStep (by repeat (first | exact hB1 | refine bAlloc ?_ _)) hb2
  clear hb2
  rw [show reqsL [(3, 0), (1, 0), (3, 1), (1, 1)] = [3, 1] by decide] at hv2
  go_wp2_with (first | (go_at_call 23; refine (p_any _ _).mono ?_; rintro e w' ⟨rfl, rfl⟩) | (go_at_call 24; refine (d_any _ _).mono ?_; rintro e w' ⟨rfl, rfl⟩) | (go_at_call 25; refine (row_any _ _ _ _).mono ?_; rintro e w' ⟨rfl, rfl⟩))
  refine Calls.mono (ints_any _ _ [3, 1] [3, 1] (by decide) _ ?r1x3 ?r2x3) ?p3
  case r1x3 => exact hv2.on (by repeat (first | exact Below.refl _ _ | refine bAlloc ?_ _))
  case r2x3 => exact Ints.laid (by simp) rfl rfl (by decide)
  rintro e w3 ⟨rfl, hb3⟩
  rw [show decide (([3, 1] : List Int) = [3, 1]) = true by decide]
  have hB3 : Below w.heap.size w w3 := bStep (by repeat (first | exact hB2 | refine bAlloc ?_ _)) hb3
  clear hb3
  clear hv2
  go_wp2_with (first | (go_at_call 23; refine (p_any _ _).mono ?_; rintro e w' ⟨rfl, rfl⟩) | (go_at_call 24; refine (d_any _ _).mono ?_; rintro e w' ⟨rfl, rfl⟩) | (go_at_call 25; refine (row_any _ _ _ _).mono ?_; rintro e w' ⟨rfl, rfl⟩))
  refine Calls.mono (Check_any _ [(3, 1), (3, 0)] (by decide) (nums_of (by decide +kernel)) _ ?r1x4) ?p4
  case r1x4 => exact Row.laid (by simp) rfl rfl (by decide)
  rintro e w4 ⟨rfl, hb4⟩
  rw [show checkV [(3, 1), (3, 0)] = 8 by decide +kernel]
  have hB4 : Below w.heap.size w w4 := bStep (by repeat (first | exact hB3 | refine bAlloc ?_ _)) hb4
  clear hb4
  go_wp2_with (first | (go_at_call 23; refine (p_any _ _).mono ?_; rintro e w' ⟨rfl, rfl⟩) | (go_at_call 24; refine (d_any _ _).mono ?_; rintro e w' ⟨rfl, rfl⟩) | (go_at_call 25; refine (row_any _ _ _ _).mono ?_; rintro e w' ⟨rfl, rfl⟩))
  refine Calls.mono (Check_any _ [(3, 0)] (by decide) (nums_of (by decide +kernel)) _ ?r1x5) ?p5
  case r1x5 => exact Row.laid (by simp) rfl rfl (by decide)
  rintro e w5 ⟨rfl, hb5⟩
  rw [show checkV [(3, 0)] = 8 by decide +kernel]
  have hB5 : Below w.heap.size w w5 := bStep (by repeat (first | exact hB4 | refine bAlloc ?_ _)) hb5
  clear hb5
  go_wp2_with (first | (go_at_call 23; refine (p_any _ _).mono ?_; rintro e w' ⟨rfl, rfl⟩) | (go_at_call 24; refine (d_any _ _).mono ?_; rintro e w' ⟨rfl, rfl⟩) | (go_at_call 25; refine (row_any _ _ _ _).mono ?_; rintro e w' ⟨rfl, rfl⟩))
  refine Calls.mono (Check_any _ [(3, 0), (3, 1), (3, 0), (3, 1)] (by decide) (nums_of (by decide +kernel)) _ ?r1x6) ?p6
  case r1x6 => exact Row.laid (by simp) rfl rfl (by decide)
  rintro e w6 ⟨rfl, hb6⟩
  rw [show checkV [(3, 0), (3, 1), (3, 0), (3, 1)] = 8 by decide +kernel]
  have hB6 : Below w.heap.size w w6 := bStep (by repeat (first | exact hB5 | refine bAlloc ?_ _)) hb6
  clear hb6
  go_upto_region 4 with (first | (go_at_call 23; refine (p_any _ _).mono ?_; rintro e w' ⟨rfl, rfl⟩) | (go_at_call 24; refine (d_any _ _).mono ?_; rintro e w' ⟨rfl, rfl⟩) | (go_at_call 25; refine (row_any _ _ _ _).mono ?_; rintro e w' ⟨rfl, rfl⟩))
  have hl0 : Hid (Row (((w6.alloc (.cells #[.int .i64 3, .int .i64 0] 27)).alloc (.cells #[.int .i64 3, .int .i64 1] 27)).alloc (.cells #[.int .i64 3, .int .i64 0, .int .i64 3, .int .i64 1] 27)).heap.size (((w6.alloc (.cells #[.int .i64 3, .int .i64 0] 27)).alloc (.cells #[.int .i64 3, .int .i64 1] 27)).alloc (.cells #[.int .i64 3, .int .i64 0, .int .i64 3, .int .i64 1] 27)) (.slice (some ⟨w6.heap.size + 1 + 1, 0, none⟩) 2 2) [(3, 0), (3, 1)]) := Lib.hid (Row.laid (by simp) rfl rfl (by decide))
  have hBl : Below w.heap.size w (((w6.alloc (.cells #[.int .i64 3, .int .i64 0] 27)).alloc (.cells #[.int .i64 3, .int .i64 1] 27)).alloc (.cells #[.int .i64 3, .int .i64 0, .int .i64 3, .int .i64 1] 27)) := by repeat (first | exact hB6 | refine bAlloc ?_ _)
  generalize (((w6.alloc (.cells #[.int .i64 3, .int .i64 0] 27)).alloc (.cells #[.int .i64 3, .int .i64 1] 27)).alloc (.cells #[.int .i64 3, .int .i64 0, .int .i64 3, .int .i64 1] 27)) = wl at *
  have hlk := Below.refl wl.heap.size wl
  go_wp2_with (first | (go_at_call 23; refine (p_any _ _).mono ?_; rintro e w' ⟨rfl, rfl⟩) | (go_at_call 24; refine (d_any _ _).mono ?_; rintro e w' ⟨rfl, rfl⟩) | (go_at_call 25; refine (row_any _ _ _ _).mono ?_; rintro e w' ⟨rfl, rfl⟩))
  refine Calls.mono (gives_yes _ _ [(3, 0), (3, 1)] [(3, 0), (1, 0), (1, 1), (3, 1)] 1 1 1 (by decide) (by decide) (by decide) _ ?r1x7 ?r2x7) ?p7
  case r1x7 => exact (hl0.out.on (by repeat (first | exact hlk | refine bAlloc ?_ _)))
  case r2x7 => exact Row.laid (by simp) rfl rfl (by decide)
  rintro e w7 ⟨rfl, hb7⟩
  have hB7 : Below w.heap.size w w7 := bStep (by repeat (first | exact hBl | refine bAlloc ?_ _)) hb7
  have hlk7 : Below wl.heap.size wl w7 := bStep (by repeat (first | exact hlk | refine bAlloc ?_ _)) hb7
  clear hb7
  go_wp2_with (first | (go_at_call 23; refine (p_any _ _).mono ?_; rintro e w' ⟨rfl, rfl⟩) | (go_at_call 24; refine (d_any _ _).mono ?_; rintro e w' ⟨rfl, rfl⟩) | (go_at_call 25; refine (row_any _ _ _ _).mono ?_; rintro e w' ⟨rfl, rfl⟩))
  refine Calls.mono (gives_yes _ _ [(3, 0), (3, 1)] [(1, 0), (3, 0), (3, 1), (1, 1)] 1 0 2 (by decide) (by decide) (by decide) _ ?r1x8 ?r2x8) ?p8
  case r1x8 => exact (hl0.out.on (by repeat (first | exact hlk7 | refine bAlloc ?_ _)))
  case r2x8 => exact Row.laid (by simp) rfl rfl (by decide)
  rintro e w8 ⟨rfl, hb8⟩
  have hB8 : Below w.heap.size w w8 := bStep (by repeat (first | exact hB7 | refine bAlloc ?_ _)) hb8
  have hlk8 : Below wl.heap.size wl w8 := bStep (by repeat (first | exact hlk7 | refine bAlloc ?_ _)) hb8
  clear hb8
  go_wp2_with (first | (go_at_call 23; refine (p_any _ _).mono ?_; rintro e w' ⟨rfl, rfl⟩) | (go_at_call 24; refine (d_any _ _).mono ?_; rintro e w' ⟨rfl, rfl⟩) | (go_at_call 25; refine (row_any _ _ _ _).mono ?_; rintro e w' ⟨rfl, rfl⟩))
  refine Calls.mono (gives_yes _ _ [(3, 0), (3, 1)] [] 1 1 0 (by decide) (by decide) (by decide) _ ?r1x9 ?r2x9) ?p9
  case r1x9 => exact (hl0.out.on (by repeat (first | exact hlk8 | refine bAlloc ?_ _)))
  case r2x9 => exact RowB.nil _ _ _
  rintro e w9 ⟨rfl, hb9⟩
  have hB9 : Below w.heap.size w w9 := bStep (by repeat (first | exact hB8 | refine bAlloc ?_ _)) hb9
  have hlk9 : Below wl.heap.size wl w9 := bStep (by repeat (first | exact hlk8 | refine bAlloc ?_ _)) hb9
  clear hb9
  go_wp2_with (first | (go_at_call 23; refine (p_any _ _).mono ?_; rintro e w' ⟨rfl, rfl⟩) | (go_at_call 24; refine (d_any _ _).mono ?_; rintro e w' ⟨rfl, rfl⟩) | (go_at_call 25; refine (row_any _ _ _ _).mono ?_; rintro e w' ⟨rfl, rfl⟩))
  refine Calls.mono (gives_yes _ _ [(3, 0), (3, 1)] [] 3 0 0 (by decide) (by decide) (by decide) _ ?r1x10 ?r2x10) ?p10
  case r1x10 => exact (hl0.out.on (by repeat (first | exact hlk9 | refine bAlloc ?_ _)))
  case r2x10 => exact RowB.nil _ _ _
  rintro e w10 ⟨rfl, hb10⟩
  have hB10 : Below w.heap.size w w10 := bStep (by repeat (first | exact hB9 | refine bAlloc ?_ _)) hb10
  have hlk10 : Below wl.heap.size wl w10 := bStep (by repeat (first | exact hlk9 | refine bAlloc ?_ _)) hb10
  clear hb10
  go_wp2
  go_ret
  exact ⟨rfl, hB10⟩

end Go.Proofs.Ytkeijbefamlckaa.Route
