/-
  The chapter's examples hold; rows that are no routes, requests that may not be, and vehicles that may not be, are told. Its condition: package load's variable signs is as the program's text lays it when the call begins, which the card ties to that text.
-/
import Derived.Test.YtphfjaelglafnaaDoorLoadWorks
import Derived.Test.YtphfjaelglafnaaDoorLoadSgn
namespace Go.Proofs.YtphfjaelglafnaaDoor.loadKnown
open Go.ChangeShapes Go.WideShapes Go.ChangeAt Go.RowKit Go.Proofs.YtphfjaelglafnaaDoor.Mem Go.Proofs.YtphfjaelglafnaaDoor.Route Go.Proofs.YtphfjaelglafnaaDoor.When Go.Proofs.YtphfjaelglafnaaDoor.Load Go.Proofs.YtphfjaelglafnaaDoor.Laid
set_option linter.unusedVariables false

def none17 : List (Int × Int) := List.replicate 17 (0, 0)
theorem made_stops : ∃ cs : Array Value, cs.toList = flatS none17 ∧ ∀ W, (Instr.makeSlice 26 (.int .i64 17) (.int .i64 17)).run Tryd.prog W = .ok (.slice (some ⟨W.heap.size, 0, none⟩) 17 17) (W.alloc (.cells cs 58)) := by
  obtain ⟨i, hi, hz, hs, hb⟩ := info_parts info_stop
  refine ⟨madeCells (Value.agg #[.int .i64 0, .int .i64 0]).cells (17 * 2), by kernel_rfl, fun W => ?_⟩
  have h := run_makeSlice (P := Tryd.prog) W 26 58 i _ Tryd.underlying26 hi hz .i64 .i64 17 17 (by omega) (by omega) (by rw [hs]; decide) (by rw [hb]; decide) (by omega)
  rw [hs] at h
  exact h

set_option maxRecDepth 100000 in
set_option maxHeartbeats 8000000 in
theorem walk (w : World) (hsg : Sg w) : Calls Tryd.prog 6 #[] w fun e w' => e = .returned (.bool true) ∧ Below w.heap.size w w' := by
  have hB0 := Below.refl w.heap.size w
  obtain ⟨cs17, hcs17, hmk17⟩ := made_stops
  have hcs := Lib.hid hcs17
  clear hcs17
  go_enter Tryd.func6, Tryd.ntmps6
  go_upto_region 2 with (first | (go_at_call 22; refine (p_any _ _).mono ?_; rintro e w' ⟨rfl, rfl⟩) | (go_at_call 23; refine (d_any _ _).mono ?_; rintro e w' ⟨rfl, rfl⟩))
  have hT : Hid (Rqs (w.alloc (.cells #[.int .i64 0, .int .i64 0, .int .i64 0, .int .i64 0, .int .i64 0, .int .i64 0, .int .i64 0, .int .i64 0, .int .i64 1000, .int .i64 0, .int .i64 0, .int .i64 0, .int .i64 0, .int .i64 0, .int .i64 0, .int .i64 0, .int .i64 0, .int .i64 0, .int .i64 0, .int .i64 0, .int .i64 0, .int .i64 0, .int .i64 0, .int .i64 0, .int .i64 0, .int .i64 0, .int .i64 0, .int .i64 0, .int .i64 1, .int .i64 2000] 55)).heap.size (w.alloc (.cells #[.int .i64 0, .int .i64 0, .int .i64 0, .int .i64 0, .int .i64 0, .int .i64 0, .int .i64 0, .int .i64 0, .int .i64 1000, .int .i64 0, .int .i64 0, .int .i64 0, .int .i64 0, .int .i64 0, .int .i64 0, .int .i64 0, .int .i64 0, .int .i64 0, .int .i64 0, .int .i64 0, .int .i64 0, .int .i64 0, .int .i64 0, .int .i64 0, .int .i64 0, .int .i64 0, .int .i64 0, .int .i64 0, .int .i64 1, .int .i64 2000] 55)) (.slice (some ⟨w.heap.size, 0, none⟩) 3 3) [⟨0, 0, 0, 0, 0, 0, 0, 0, 1000, 0⟩, ⟨0, 0, 0, 0, 0, 0, 0, 0, 0, 0⟩, ⟨0, 0, 0, 0, 0, 0, 0, 0, 1, 2000⟩]) := Lib.hid (rqs_laid rfl rfl rfl (by decide))
  have hBhT : Below w.heap.size w (w.alloc (.cells #[.int .i64 0, .int .i64 0, .int .i64 0, .int .i64 0, .int .i64 0, .int .i64 0, .int .i64 0, .int .i64 0, .int .i64 1000, .int .i64 0, .int .i64 0, .int .i64 0, .int .i64 0, .int .i64 0, .int .i64 0, .int .i64 0, .int .i64 0, .int .i64 0, .int .i64 0, .int .i64 0, .int .i64 0, .int .i64 0, .int .i64 0, .int .i64 0, .int .i64 0, .int .i64 0, .int .i64 0, .int .i64 0, .int .i64 1, .int .i64 2000] 55)) := bAlloc hB0 _
  generalize hghT : (w.alloc (.cells #[.int .i64 0, .int .i64 0, .int .i64 0, .int .i64 0, .int .i64 0, .int .i64 0, .int .i64 0, .int .i64 0, .int .i64 1000, .int .i64 0, .int .i64 0, .int .i64 0, .int .i64 0, .int .i64 0, .int .i64 0, .int .i64 0, .int .i64 0, .int .i64 0, .int .i64 0, .int .i64 0, .int .i64 0, .int .i64 0, .int .i64 0, .int .i64 0, .int .i64 0, .int .i64 0, .int .i64 0, .int .i64 0, .int .i64 1, .int .i64 2000] 55)) = whT at *
  have hshT : w.heap.size < whT.heap.size := by rw [← hghT]; simp
  clear hghT
  have khT := Below.refl whT.heap.size whT
  go_upto_region 3 with (first | (go_at_call 22; refine (p_any _ _).mono ?_; rintro e w' ⟨rfl, rfl⟩) | (go_at_call 23; refine (d_any _ _).mono ?_; rintro e w' ⟨rfl, rfl⟩))
  have hR : Hid (Row (((whT.alloc (.cells #[.int .i64 0, .int .i64 0] 58)).alloc (.cells #[.int .i64 0, .int .i64 1] 58)).alloc (.cells #[.int .i64 0, .int .i64 0, .int .i64 0, .int .i64 1] 58)).heap.size (((whT.alloc (.cells #[.int .i64 0, .int .i64 0] 58)).alloc (.cells #[.int .i64 0, .int .i64 1] 58)).alloc (.cells #[.int .i64 0, .int .i64 0, .int .i64 0, .int .i64 1] 58)) (.slice (some ⟨whT.heap.size + 1 + 1, 0, none⟩) 2 2) [(0, 0), (0, 1)]) := Lib.hid (Row.laid (by simp) rfl rfl (by decide))
  have hBhR : Below w.heap.size w (((whT.alloc (.cells #[.int .i64 0, .int .i64 0] 58)).alloc (.cells #[.int .i64 0, .int .i64 1] 58)).alloc (.cells #[.int .i64 0, .int .i64 0, .int .i64 0, .int .i64 1] 58)) := by repeat (first | exact hBhT | refine bAlloc ?_ _)
  have khThR : Below whT.heap.size whT (((whT.alloc (.cells #[.int .i64 0, .int .i64 0] 58)).alloc (.cells #[.int .i64 0, .int .i64 1] 58)).alloc (.cells #[.int .i64 0, .int .i64 0, .int .i64 0, .int .i64 1] 58)) := by repeat (first | exact khT | refine bAlloc ?_ _)
  generalize (((whT.alloc (.cells #[.int .i64 0, .int .i64 0] 58)).alloc (.cells #[.int .i64 0, .int .i64 1] 58)).alloc (.cells #[.int .i64 0, .int .i64 0, .int .i64 0, .int .i64 1] 58)) = whR at *
  have khR := Below.refl whR.heap.size whR
  go_wp2_with (first | (go_at_call 22; refine (p_any _ _).mono ?_; rintro e w' ⟨rfl, rfl⟩) | (go_at_call 23; refine (d_any _ _).mono ?_; rintro e w' ⟨rfl, rfl⟩))
  refine Calls.mono (Profile_all _ _ [] [] (by decide) (nums_of (by decide +kernel)) _ (hsg.on (by repeat (first | exact hBhR | refine bAlloc ?_ _))) ?r1x1 ?r2x1) ?p1
  case r1x1 => exact RowB.nil _ _ _
  case r2x1 => exact RowB.nil _ _ _
  rintro e x1 ⟨⟨v1, rfl, hv1, hn1, h01⟩, hb1⟩
  rw [show toldV [] [] = 0 by decide +kernel]
  have hB1 : Below w.heap.size w x1 := bStep (by repeat (first | exact hBhR | refine bAlloc ?_ _)) hb1
  have khT1 : Below whT.heap.size whT x1 := bStep (by repeat (first | exact khThR | refine bAlloc ?_ _)) hb1
  have khR1 : Below whR.heap.size whR x1 := bStep (by repeat (first | exact khR | refine bAlloc ?_ _)) hb1
  clear hb1
  rw [show profV [] [] = [] by decide +kernel] at hv1
  obtain ⟨xv1, cv1, rfl, hc1, _⟩ := hv1.slice
  simp only [List.length_nil] at hc1 hv1
  have hv1 := Lib.hid hv1
  simp only [List.length_nil]
  have hk1 := Below.refl x1.heap.size x1
  clear h01 hn1
  go_wp2_with (first | (go_at_call 22; refine (p_any _ _).mono ?_; rintro e w' ⟨rfl, rfl⟩) | (go_at_call 23; refine (d_any _ _).mono ?_; rintro e w' ⟨rfl, rfl⟩))
  refine Calls.mono (Profile_all _ _ [(0, 1), (0, 0)] [⟨0, 0, 0, 0, 0, 0, 0, 0, 1000, 0⟩, ⟨0, 0, 0, 0, 0, 0, 0, 0, 0, 0⟩, ⟨0, 0, 0, 0, 0, 0, 0, 0, 1, 2000⟩] (by decide) (nums_of (by decide +kernel)) _ (hsg.on (by repeat (first | exact hB1 | refine bAlloc ?_ _))) ?r1x2 ?r2x2) ?p2
  case r1x2 => exact Row.laid (by simp) rfl rfl (by decide)
  case r2x2 => exact (hT.out.on (by repeat (first | exact khT1 | refine bAlloc ?_ _)))
  rintro e x2 ⟨⟨v2, rfl, hv2, hn2, h02⟩, hb2⟩
  rw [show toldV [(0, 1), (0, 0)] [⟨0, 0, 0, 0, 0, 0, 0, 0, 1000, 0⟩, ⟨0, 0, 0, 0, 0, 0, 0, 0, 0, 0⟩, ⟨0, 0, 0, 0, 0, 0, 0, 0, 1, 2000⟩] = 8 by decide +kernel]
  have hB2 : Below w.heap.size w x2 := bStep (by repeat (first | exact hB1 | refine bAlloc ?_ _)) hb2
  have khT2 : Below whT.heap.size whT x2 := bStep (by repeat (first | exact khT1 | refine bAlloc ?_ _)) hb2
  have khR2 : Below whR.heap.size whR x2 := bStep (by repeat (first | exact khR1 | refine bAlloc ?_ _)) hb2
  have hk12 : Below x1.heap.size x1 x2 := bStep (by repeat (first | exact hk1 | refine bAlloc ?_ _)) hb2
  clear hb2
  obtain rfl := h02 (by rw [show toldV [(0, 1), (0, 0)] [⟨0, 0, 0, 0, 0, 0, 0, 0, 1000, 0⟩, ⟨0, 0, 0, 0, 0, 0, 0, 0, 0, 0⟩, ⟨0, 0, 0, 0, 0, 0, 0, 0, 1, 2000⟩] = 8 by decide +kernel]; decide)
  clear hv2
  clear h02 hn2
  go_wp2_with (first | (go_at_call 22; refine (p_any _ _).mono ?_; rintro e w' ⟨rfl, rfl⟩) | (go_at_call 23; refine (d_any _ _).mono ?_; rintro e w' ⟨rfl, rfl⟩))
  refine Calls.mono (Profile_all _ _ [(0, 0), (1, 0), (1, 1), (0, 1)] [⟨0, 0, 0, 0, 0, 0, 0, 0, 1000, 0⟩, ⟨0, 0, 0, 0, 0, 0, 0, 0, 0, 0⟩, ⟨0, 0, 0, 0, 0, 0, 0, 0, 1, 2000⟩] (by decide) (nums_of (by decide +kernel)) _ (hsg.on (by repeat (first | exact hB2 | refine bAlloc ?_ _))) ?r1x3 ?r2x3) ?p3
  case r1x3 => exact Row.laid (by simp) rfl rfl (by decide)
  case r2x3 => exact (hT.out.on (by repeat (first | exact khT2 | refine bAlloc ?_ _)))
  rintro e x3 ⟨⟨v3, rfl, hv3, hn3, h03⟩, hb3⟩
  rw [show toldV [(0, 0), (1, 0), (1, 1), (0, 1)] [⟨0, 0, 0, 0, 0, 0, 0, 0, 1000, 0⟩, ⟨0, 0, 0, 0, 0, 0, 0, 0, 0, 0⟩, ⟨0, 0, 0, 0, 0, 0, 0, 0, 1, 2000⟩] = 2 by decide +kernel]
  have hB3 : Below w.heap.size w x3 := bStep (by repeat (first | exact hB2 | refine bAlloc ?_ _)) hb3
  have khT3 : Below whT.heap.size whT x3 := bStep (by repeat (first | exact khT2 | refine bAlloc ?_ _)) hb3
  have khR3 : Below whR.heap.size whR x3 := bStep (by repeat (first | exact khR2 | refine bAlloc ?_ _)) hb3
  have hk13 : Below x1.heap.size x1 x3 := bStep (by repeat (first | exact hk12 | refine bAlloc ?_ _)) hb3
  clear hb3
  obtain rfl := h03 (by rw [show toldV [(0, 0), (1, 0), (1, 1), (0, 1)] [⟨0, 0, 0, 0, 0, 0, 0, 0, 1000, 0⟩, ⟨0, 0, 0, 0, 0, 0, 0, 0, 0, 0⟩, ⟨0, 0, 0, 0, 0, 0, 0, 0, 1, 2000⟩] = 2 by decide +kernel]; decide)
  clear hv3
  clear h03 hn3
  go_wp2_with (first | (go_at_call 22; refine (p_any _ _).mono ?_; rintro e w' ⟨rfl, rfl⟩) | (go_at_call 23; refine (d_any _ _).mono ?_; rintro e w' ⟨rfl, rfl⟩))
  refine Calls.mono (Profile_all _ _ [(2, 0), (2, 1)] [⟨0, 0, 0, 0, 0, 0, 0, 0, 1000, 0⟩, ⟨0, 0, 0, 0, 0, 0, 0, 0, 0, 0⟩, ⟨0, 0, 0, 0, 0, 0, 0, 0, 1, 2000⟩] (by decide) (nums_of (by decide +kernel)) _ (hsg.on (by repeat (first | exact hB3 | refine bAlloc ?_ _))) ?r1x4 ?r2x4) ?p4
  case r1x4 => exact Row.laid (by simp) rfl rfl (by decide)
  case r2x4 => exact (hT.out.on (by repeat (first | exact khT3 | refine bAlloc ?_ _)))
  rintro e x4 ⟨⟨v4, rfl, hv4, hn4, h04⟩, hb4⟩
  rw [show toldV [(2, 0), (2, 1)] [⟨0, 0, 0, 0, 0, 0, 0, 0, 1000, 0⟩, ⟨0, 0, 0, 0, 0, 0, 0, 0, 0, 0⟩, ⟨0, 0, 0, 0, 0, 0, 0, 0, 1, 2000⟩] = 2 by decide +kernel]
  have hB4 : Below w.heap.size w x4 := bStep (by repeat (first | exact hB3 | refine bAlloc ?_ _)) hb4
  have khT4 : Below whT.heap.size whT x4 := bStep (by repeat (first | exact khT3 | refine bAlloc ?_ _)) hb4
  have khR4 : Below whR.heap.size whR x4 := bStep (by repeat (first | exact khR3 | refine bAlloc ?_ _)) hb4
  have hk14 : Below x1.heap.size x1 x4 := bStep (by repeat (first | exact hk13 | refine bAlloc ?_ _)) hb4
  clear hb4
  obtain rfl := h04 (by rw [show toldV [(2, 0), (2, 1)] [⟨0, 0, 0, 0, 0, 0, 0, 0, 1000, 0⟩, ⟨0, 0, 0, 0, 0, 0, 0, 0, 0, 0⟩, ⟨0, 0, 0, 0, 0, 0, 0, 0, 1, 2000⟩] = 2 by decide +kernel]; decide)
  clear hv4
  clear h04 hn4
  go_wp2_with (first | (go_at_call 22; refine (p_any _ _).mono ?_; rintro e w' ⟨rfl, rfl⟩) | (go_at_call 23; refine (d_any _ _).mono ?_; rintro e w' ⟨rfl, rfl⟩))
  refine Calls.mono (Profile_all _ _ [(1, 0), (3, 0), (1, 1), (3, 1)] [⟨0, 0, 0, 0, 0, 0, 0, 0, 1000, 0⟩, ⟨0, 0, 0, 0, 0, 0, 0, 0, 0, 0⟩, ⟨0, 0, 0, 0, 0, 0, 0, 0, 1, 2000⟩] (by decide) (nums_of (by decide +kernel)) _ (hsg.on (by repeat (first | exact hB4 | refine bAlloc ?_ _))) ?r1x5 ?r2x5) ?p5
  case r1x5 => exact Row.laid (by simp) rfl rfl (by decide)
  case r2x5 => exact (hT.out.on (by repeat (first | exact khT4 | refine bAlloc ?_ _)))
  rintro e x5 ⟨⟨v5, rfl, hv5, hn5, h05⟩, hb5⟩
  rw [show toldV [(1, 0), (3, 0), (1, 1), (3, 1)] [⟨0, 0, 0, 0, 0, 0, 0, 0, 1000, 0⟩, ⟨0, 0, 0, 0, 0, 0, 0, 0, 0, 0⟩, ⟨0, 0, 0, 0, 0, 0, 0, 0, 1, 2000⟩] = 8 by decide +kernel]
  have hB5 : Below w.heap.size w x5 := bStep (by repeat (first | exact hB4 | refine bAlloc ?_ _)) hb5
  have khT5 : Below whT.heap.size whT x5 := bStep (by repeat (first | exact khT4 | refine bAlloc ?_ _)) hb5
  have khR5 : Below whR.heap.size whR x5 := bStep (by repeat (first | exact khR4 | refine bAlloc ?_ _)) hb5
  have hk15 : Below x1.heap.size x1 x5 := bStep (by repeat (first | exact hk14 | refine bAlloc ?_ _)) hb5
  clear hb5
  obtain rfl := h05 (by rw [show toldV [(1, 0), (3, 0), (1, 1), (3, 1)] [⟨0, 0, 0, 0, 0, 0, 0, 0, 1000, 0⟩, ⟨0, 0, 0, 0, 0, 0, 0, 0, 0, 0⟩, ⟨0, 0, 0, 0, 0, 0, 0, 0, 1, 2000⟩] = 8 by decide +kernel]; decide)
  clear hv5
  clear h05 hn5
  go_wp2_with (first | (go_at_call 22; refine (p_any _ _).mono ?_; rintro e w' ⟨rfl, rfl⟩) | (go_at_call 23; refine (d_any _ _).mono ?_; rintro e w' ⟨rfl, rfl⟩))
  refine Calls.mono (Peak_any _ _ none17 [⟨0, 0, 0, 0, 0, 0, 0, 0, 1000, 0⟩, ⟨0, 0, 0, 0, 0, 0, 0, 0, 0, 0⟩, ⟨0, 0, 0, 0, 0, 0, 0, 0, 1, 2000⟩] (by decide) (nums_of (by decide +kernel)) _ (hsg.on (by repeat (first | exact hB5 | refine bAlloc ?_ _))) ?r1x6 ?r2x6) ?p6
  case r1x6 => exact Row.laid rfl hcs.out (by decide) (by decide)
  case r2x6 => exact (hT.out.on (by repeat (first | exact khT5 | refine bAlloc ?_ _)))
  rintro e x6 ⟨rfl, hb6⟩
  rw [show peakV none17 [⟨0, 0, 0, 0, 0, 0, 0, 0, 1000, 0⟩, ⟨0, 0, 0, 0, 0, 0, 0, 0, 0, 0⟩, ⟨0, 0, 0, 0, 0, 0, 0, 0, 1, 2000⟩] = 0 by decide +kernel, show toldV none17 [⟨0, 0, 0, 0, 0, 0, 0, 0, 1000, 0⟩, ⟨0, 0, 0, 0, 0, 0, 0, 0, 0, 0⟩, ⟨0, 0, 0, 0, 0, 0, 0, 0, 1, 2000⟩] = 11 by decide +kernel]
  have hB6 : Below w.heap.size w x6 := bStep (by repeat (first | exact hB5 | refine bAlloc ?_ _)) hb6
  have khT6 : Below whT.heap.size whT x6 := bStep (by repeat (first | exact khT5 | refine bAlloc ?_ _)) hb6
  have khR6 : Below whR.heap.size whR x6 := bStep (by repeat (first | exact khR5 | refine bAlloc ?_ _)) hb6
  have hk16 : Below x1.heap.size x1 x6 := bStep (by repeat (first | exact hk15 | refine bAlloc ?_ _)) hb6
  clear hb6
  go_wp2_with (first | (go_at_call 22; refine (p_any _ _).mono ?_; rintro e w' ⟨rfl, rfl⟩) | (go_at_call 23; refine (d_any _ _).mono ?_; rintro e w' ⟨rfl, rfl⟩))
  refine Calls.mono (Fits_any ⟨(-1), 0, 1, 0, 0⟩ _ _ [] [] (by decide) (nums_of (by decide +kernel)) _ (hsg.on (by repeat (first | exact hB6 | refine bAlloc ?_ _))) ?r1x7 ?r2x7) ?p7
  case r1x7 => exact RowB.nil _ _ _
  case r2x7 => exact RowB.nil _ _ _
  rintro e x7 ⟨rfl, hb7⟩
  rw [show fitAt ⟨(-1), 0, 1, 0, 0⟩ [] [] = -1 by decide +kernel, show fitE ⟨(-1), 0, 1, 0, 0⟩ [] [] = 4 by decide +kernel]
  have hB7 : Below w.heap.size w x7 := bStep (by repeat (first | exact hB6 | refine bAlloc ?_ _)) hb7
  have khT7 : Below whT.heap.size whT x7 := bStep (by repeat (first | exact khT6 | refine bAlloc ?_ _)) hb7
  have khR7 : Below whR.heap.size whR x7 := bStep (by repeat (first | exact khR6 | refine bAlloc ?_ _)) hb7
  have hk17 : Below x1.heap.size x1 x7 := bStep (by repeat (first | exact hk16 | refine bAlloc ?_ _)) hb7
  clear hb7
  go_wp2_with (first | (go_at_call 22; refine (p_any _ _).mono ?_; rintro e w' ⟨rfl, rfl⟩) | (go_at_call 23; refine (d_any _ _).mono ?_; rintro e w' ⟨rfl, rfl⟩))
  refine Calls.mono (Fits_any ⟨0, 0, 0, 0, 0⟩ _ _ [(0, 0), (0, 1)] [⟨0, 0, 0, 0, 0, 0, 0, 0, 1000, 0⟩, ⟨0, 0, 0, 0, 0, 0, 0, 0, 0, 0⟩, ⟨0, 0, 0, 0, 0, 0, 0, 0, 1, 2000⟩] (by decide) (nums_of (by decide +kernel)) _ (hsg.on (by repeat (first | exact hB7 | refine bAlloc ?_ _))) ?r1x8 ?r2x8) ?p8
  case r1x8 => exact (hR.out.on (by repeat (first | exact khR7 | refine bAlloc ?_ _)))
  case r2x8 => exact (hT.out.on (by repeat (first | exact khT7 | refine bAlloc ?_ _)))
  rintro e x8 ⟨rfl, hb8⟩
  rw [show fitAt ⟨0, 0, 0, 0, 0⟩ [(0, 0), (0, 1)] [⟨0, 0, 0, 0, 0, 0, 0, 0, 1000, 0⟩, ⟨0, 0, 0, 0, 0, 0, 0, 0, 0, 0⟩, ⟨0, 0, 0, 0, 0, 0, 0, 0, 1, 2000⟩] = -1 by decide +kernel, show fitE ⟨0, 0, 0, 0, 0⟩ [(0, 0), (0, 1)] [⟨0, 0, 0, 0, 0, 0, 0, 0, 1000, 0⟩, ⟨0, 0, 0, 0, 0, 0, 0, 0, 0, 0⟩, ⟨0, 0, 0, 0, 0, 0, 0, 0, 1, 2000⟩] = 7 by decide +kernel]
  have hB8 : Below w.heap.size w x8 := bStep (by repeat (first | exact hB7 | refine bAlloc ?_ _)) hb8
  have khT8 : Below whT.heap.size whT x8 := bStep (by repeat (first | exact khT7 | refine bAlloc ?_ _)) hb8
  have khR8 : Below whR.heap.size whR x8 := bStep (by repeat (first | exact khR7 | refine bAlloc ?_ _)) hb8
  have hk18 : Below x1.heap.size x1 x8 := bStep (by repeat (first | exact hk17 | refine bAlloc ?_ _)) hb8
  clear hb8
  go_wp2_with (first | (go_at_call 22; refine (p_any _ _).mono ?_; rintro e w' ⟨rfl, rfl⟩) | (go_at_call 23; refine (d_any _ _).mono ?_; rintro e w' ⟨rfl, rfl⟩))
  refine Calls.mono (Fits_any ⟨0, 0, 999, 0, 0⟩ _ _ [(0, 0), (0, 1)] [⟨0, 0, 0, 0, 0, 0, 0, 0, 1000, 0⟩, ⟨0, 0, 0, 0, 0, 0, 0, 0, 0, 0⟩, ⟨0, 0, 0, 0, 0, 0, 0, 0, 1, 2000⟩] (by decide) (nums_of (by decide +kernel)) _ (hsg.on (by repeat (first | exact hB8 | refine bAlloc ?_ _))) ?r1x9 ?r2x9) ?p9
  case r1x9 => exact (hR.out.on (by repeat (first | exact khR8 | refine bAlloc ?_ _)))
  case r2x9 => exact (hT.out.on (by repeat (first | exact khT8 | refine bAlloc ?_ _)))
  rintro e x9 ⟨rfl, hb9⟩
  rw [show fitAt ⟨0, 0, 999, 0, 0⟩ [(0, 0), (0, 1)] [⟨0, 0, 0, 0, 0, 0, 0, 0, 1000, 0⟩, ⟨0, 0, 0, 0, 0, 0, 0, 0, 0, 0⟩, ⟨0, 0, 0, 0, 0, 0, 0, 0, 1, 2000⟩] = 0 by decide +kernel, show fitE ⟨0, 0, 999, 0, 0⟩ [(0, 0), (0, 1)] [⟨0, 0, 0, 0, 0, 0, 0, 0, 1000, 0⟩, ⟨0, 0, 0, 0, 0, 0, 0, 0, 0, 0⟩, ⟨0, 0, 0, 0, 0, 0, 0, 0, 1, 2000⟩] = 10 by decide +kernel]
  have hB9 : Below w.heap.size w x9 := bStep (by repeat (first | exact hB8 | refine bAlloc ?_ _)) hb9
  have khT9 : Below whT.heap.size whT x9 := bStep (by repeat (first | exact khT8 | refine bAlloc ?_ _)) hb9
  have khR9 : Below whR.heap.size whR x9 := bStep (by repeat (first | exact khR8 | refine bAlloc ?_ _)) hb9
  have hk19 : Below x1.heap.size x1 x9 := bStep (by repeat (first | exact hk18 | refine bAlloc ?_ _)) hb9
  clear hb9
  go_upto_region 12 with (first | (go_at_call 22; refine (p_any _ _).mono ?_; rintro e w' ⟨rfl, rfl⟩) | (go_at_call 23; refine (d_any _ _).mono ?_; rintro e w' ⟨rfl, rfl⟩))
  simp only [List.append_eq, List.cons_append, List.nil_append]
  go_wp2_with (first | (go_at_call 22; refine (p_any _ _).mono ?_; rintro e w' ⟨rfl, rfl⟩) | (go_at_call 23; refine (d_any _ _).mono ?_; rintro e w' ⟨rfl, rfl⟩))
  refine Calls.mono (works_any _ (hsg.on (by repeat (first | exact hB9 | refine bAlloc ?_ _)))) ?p10
  rintro e x10 ⟨rfl, hb10⟩
  have hB10 : Below w.heap.size w x10 := bStep (by repeat (first | exact hB9 | refine bAlloc ?_ _)) hb10
  have khR10 : Below whR.heap.size whR x10 := bStep (by repeat (first | exact khR9 | refine bAlloc ?_ _)) hb10
  have hk110 : Below x1.heap.size x1 x10 := bStep (by repeat (first | exact hk19 | refine bAlloc ?_ _)) hb10
  clear hb10
  go_wp2_with (first | (go_at_call 22; refine (p_any _ _).mono ?_; rintro e w' ⟨rfl, rfl⟩) | (go_at_call 23; refine (d_any _ _).mono ?_; rintro e w' ⟨rfl, rfl⟩))
  refine Calls.mono (Open_any _ [(0, 0), (0, 1)] (by decide) (nums_of (by decide +kernel)) 2 _ ?r1x11) ?p11
  case r1x11 => exact (hR.out.on (by repeat (first | exact khR10 | refine bAlloc ?_ _)))
  rintro e x11 ⟨⟨v11, rfl, hv11, hn11⟩, hb11⟩
  rw [show Load.opAt [(0, 0), (0, 1)] 2 = [] by decide +kernel] at hv11
  obtain ⟨xv11, cv11, rfl, hc11, _⟩ := hv11.slice
  have hB11 : Below w.heap.size w x11 := bStep (by repeat (first | exact hB10 | refine bAlloc ?_ _)) hb11
  have khR11 : Below whR.heap.size whR x11 := bStep (by repeat (first | exact khR10 | refine bAlloc ?_ _)) hb11
  have hk111 : Below x1.heap.size x1 x11 := bStep (by repeat (first | exact hk110 | refine bAlloc ?_ _)) hb11
  clear hb11
  simp only [List.length_nil] at hc11 hv11
  have hv11 := Lib.hid hv11
  simp only [List.length_nil]
  have hk11 := Below.refl x11.heap.size x11
  go_wp2_with (first | (go_at_call 22; refine (p_any _ _).mono ?_; rintro e w' ⟨rfl, rfl⟩) | (go_at_call 23; refine (d_any _ _).mono ?_; rintro e w' ⟨rfl, rfl⟩))
  refine Calls.mono (Open_any _ [(0, 0), (0, 1)] (by decide) (nums_of (by decide +kernel)) (-5) _ ?r1x12) ?p12
  case r1x12 => exact (hR.out.on (by repeat (first | exact khR11 | refine bAlloc ?_ _)))
  rintro e x12 ⟨⟨v12, rfl, hv12, hn12⟩, hb12⟩
  rw [show Load.opAt [(0, 0), (0, 1)] (-5) = [] by decide +kernel] at hv12
  obtain ⟨xv12, cv12, rfl, hc12, _⟩ := hv12.slice
  have hB12 : Below w.heap.size w x12 := bStep (by repeat (first | exact hB11 | refine bAlloc ?_ _)) hb12
  have khR12 : Below whR.heap.size whR x12 := bStep (by repeat (first | exact khR11 | refine bAlloc ?_ _)) hb12
  have hk112 : Below x1.heap.size x1 x12 := bStep (by repeat (first | exact hk111 | refine bAlloc ?_ _)) hb12
  have hk1112 : Below x11.heap.size x11 x12 := bStep (by repeat (first | exact hk11 | refine bAlloc ?_ _)) hb12
  clear hb12
  simp only [List.length_nil] at hc12 hv12
  have hv12 := Lib.hid hv12
  simp only [List.length_nil]
  have hk12 := Below.refl x12.heap.size x12
  go_wp2_with (first | (go_at_call 22; refine (p_any _ _).mono ?_; rintro e w' ⟨rfl, rfl⟩) | (go_at_call 23; refine (d_any _ _).mono ?_; rintro e w' ⟨rfl, rfl⟩))
  refine Calls.mono (Open_any _ [(9, 0), (4, 0), (9, 0)] (by decide) (nums_of (by decide +kernel)) 99 _ ?r1x13) ?p13
  case r1x13 => exact Row.laid (by simp) rfl rfl (by decide)
  rintro e x13 ⟨⟨v13, rfl, hv13, hn13⟩, hb13⟩
  rw [show Load.opAt [(9, 0), (4, 0), (9, 0)] 99 = [4, 9] by decide +kernel] at hv13
  obtain ⟨xv13, cv13, rfl, hc13, _⟩ := hv13.slice
  have hB13 : Below w.heap.size w x13 := bStep (by repeat (first | exact hB12 | refine bAlloc ?_ _)) hb13
  have hk113 : Below x1.heap.size x1 x13 := bStep (by repeat (first | exact hk112 | refine bAlloc ?_ _)) hb13
  have hk1113 : Below x11.heap.size x11 x13 := bStep (by repeat (first | exact hk1112 | refine bAlloc ?_ _)) hb13
  have hk1213 : Below x12.heap.size x12 x13 := bStep (by repeat (first | exact hk12 | refine bAlloc ?_ _)) hb13
  clear hb13
  simp only [List.length_cons, List.length_nil, Nat.reduceAdd, Nat.zero_add] at hc13 hv13
  have hv13 := Lib.hid hv13
  simp only [List.length_cons, List.length_nil, Nat.reduceAdd, Nat.zero_add]
  have hk13 := Below.refl x13.heap.size x13
  go_wp2_with (first | (go_at_call 22; refine (p_any _ _).mono ?_; rintro e w' ⟨rfl, rfl⟩) | (go_at_call 23; refine (d_any _ _).mono ?_; rintro e w' ⟨rfl, rfl⟩))
  refine Calls.mono (ints_any _ _ [4, 9] [4, 9] (by decide) _ ?r1x14 ?r2x14) ?p14
  case r1x14 => exact (hv13.out.on (by repeat (first | exact hk13 | refine bAlloc ?_ _)))
  case r2x14 => exact Ints.laid (by simp) rfl rfl (by decide)
  rintro e x14 ⟨rfl, hb14⟩
  rw [show decide (([4, 9] : List Int) = [4, 9]) = true by decide]
  have hB14 : Below w.heap.size w x14 := bStep (by repeat (first | exact hB13 | refine bAlloc ?_ _)) hb14
  have hk114 : Below x1.heap.size x1 x14 := bStep (by repeat (first | exact hk113 | refine bAlloc ?_ _)) hb14
  have hk1114 : Below x11.heap.size x11 x14 := bStep (by repeat (first | exact hk1113 | refine bAlloc ?_ _)) hb14
  have hk1214 : Below x12.heap.size x12 x14 := bStep (by repeat (first | exact hk1213 | refine bAlloc ?_ _)) hb14
  have hk1314 : Below x13.heap.size x13 x14 := bStep (by repeat (first | exact hk13 | refine bAlloc ?_ _)) hb14
  clear hb14
  go_wp2
  go_ret
  exact ⟨rfl, hB14⟩

set_option maxRecDepth 100000 in
theorem lifted (os : Os) (started : os.Started) (H : Type) (enc : TypeId × Value → H) :
    ReturnsInHanded {} Tryd.checked os 6 .any (fun w args => (Rows.loadKnownSpec.pre enc Tryd.prog Tryd.f6 [] false w args ∧ laidMetH Tryd.prog Rows.loadKnownRow.laid w) ∧ sizedMet enc Tryd.prog Tryd.f6 (OpenSpec.ofChange Rows.loadKnownSpec) false w args)
      (Rows.loadKnownSpec.post enc Tryd.prog Tryd.f6 false true false false) := by
  refine returnsInHanded_of_change_and (C := Tryd.checked) (X := fun w _ => laidMetH Tryd.prog Rows.loadKnownRow.laid w) (fun _ _ _ hh h => h.of_heap hh) own started (by kernel_rfl) Tryd.func6
    (ChangeSpec.witness_shaped (enc := enc) (C := Tryd.checked) (os := os) (X := fun w _ => laidMetH Tryd.prog Rows.loadKnownRow.laid w) false (World.doorLaid Tryd.prog 400 os) #[] 8 rfl (World.shaped_of_RefB (by kernel_rfl) (by kernel_rfl)) (by kernel_rfl) (by kernel_rfl) (by kernel_rfl) (door_met os _)) ?_
  intro W base args ds gs before hval0 hW _ _ hL _
  have hval : ∀ (j : Nat) t v, Tryd.f6.params[j]? = some t → args[j]? = some v → Value.okWide Tryd.prog W .any base t v := hval0
  have hW' := hW
  obtain ⟨p, q, hA0, hV, rfl, hfz, hnd⟩ := hW
  have hA : DataW.TrodAll enc Tryd.prog W 0 (fun _ => true) true Tryd.f6.params.toList args.toList ds p := hA0
  rw [Tryd.params6] at hA
  obtain ⟨rfl, rfl, rfl⟩ := trodAll_none hA
  obtain ⟨rfl, rfl⟩ := trodVars_none hV
  exact (walk W (sg_of_laid hL)).mono fun e W' ⟨he, hb⟩ => ⟨_, he, Close.law_post laidOut (by kernel_rfl) rfl (by kernel_rfl) Tryd.underlying4 hW' rfl hb⟩

theorem over : Rows.LoadKnownSaid :=
  OpenClaim.holds_of_wide 6 Tryd.f6 rfl rfl rfl rfl rfl rfl rfl ⟨rfl, rfl, rfl, rfl, rfl⟩ rfl rfl rfl rfl rfl (by kernel_rfl) Tryd.func6 (by kernel_rfl)
    (of_decide_eq_true (by kernel_rfl)) (by unfold Func.isWrapper; first | (rw [if_pos (by decide +kernel)]; kernel_rfl) | (rw [if_neg (by decide +kernel)]; exact ⟨rfl, rfl⟩))
    (fun os started H enc _ => lifted os started H enc)

theorem proved : Rows.LoadKnownCardSaid :=
  Claim7.holds_tied_plain_at .later [] [.data] true _ false
    over (fun _ h => by cases h) (by kernel_rfl) (fun _ h => by cases h) loadKnown_row_tie rfl ⟨rfl, rfl⟩ (by kernel_rfl) rfl
    (fun f fn hf hfn => by
      obtain rfl : f = 6 := Option.some.inj ((show Tryd.prog.funcNamed "consign/consignlaw08.LoadKnown" = some 6 by kernel_rfl).symm.trans hf) |>.symm
      obtain rfl : fn = Tryd.f6 := (Option.some.inj (Tryd.func6.symm.trans hfn)).symm
      exact ⟨by kernel_rfl, fun j t ht => by
        rw [Tryd.params6] at ht
        simp at ht⟩)
    (by kernel_rfl)
#print axioms proved

end Go.Proofs.YtphfjaelglafnaaDoor.loadKnown
