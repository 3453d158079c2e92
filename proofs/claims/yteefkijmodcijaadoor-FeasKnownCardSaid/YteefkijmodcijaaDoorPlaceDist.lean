/-
  Contracts of package place's distance, and what is wanted where a place is a result.
-/
import Derived.Test.YteefkijmodcijaaDoorPlaceCalls
import Derived.Deep.RegionHeld3
import Derived.BigRegion
namespace Go.Proofs.YteefkijmodcijaaDoor.Place
open Go.RowKit
set_option linter.unusedVariables false

theorem res_place {fn : Func} {p : Tmp} (h : fn.results = #[.cell p 32]) {tmps : Array Value} {w : World} {g : Nat} {x y : Value} (hp : tmps.getD p undef = .pointer (some ⟨g, 0, none⟩))
    (c0 : w.cell? ⟨g, 0, none⟩ = some x) (c1 : w.cell? ⟨g, 1, none⟩ = some y) : (results fn tmps).run Tryd.prog w = .ok (.agg #[x, y]) w := by
  have hp' : tmps[p]?.getD undef = .pointer (some ⟨g, 0, none⟩) := by simpa using hp
  simp only [results, h]
  go_simp

theorem refDist_any (ax ay bx by_ : Int) (w : World) :
    Calls Tryd.prog 29 #[.agg #[.int .i64 ax, .int .i64 ay], .agg #[.int .i64 bx, .int .i64 by_]] w fun e w' => e = .returned (.int .i64 (distV (ax, ay) (bx, by_))) ∧ Below w.heap.size w w' := by
  have hb0 : Below w.heap.size w ((w.alloc (.cells #[.int .i64 ax, .int .i64 ay] 32)).alloc (.cells #[.int .i64 bx, .int .i64 by_] 32)) := ((Below.refl _ _).alloc (Nat.le_refl _) _).alloc (by simp) _
  cases h1 : mayB (ax, ay)
  · have hd := Lib.hid (distV_no1 (b := (bx, by_)) h1)
    go_enter Tryd.func29, Tryd.ntmps29
    go_wp2_with fail
    refine (refMay_any _ _ _).mono ?_
    rintro e w1 ⟨rfl, hb1⟩
    rw [h1]
    go_wp2
    go_ret
    exact ⟨ret_int hd.out.symm, hb0.trans (hb1.mono hb0.size)⟩
  · cases h2 : mayB (bx, by_)
    · have hd := Lib.hid (distV_no2 (a := (ax, ay)) h2)
      go_enter Tryd.func29, Tryd.ntmps29
      go_wp2_with fail
      refine (refMay_any _ _ _).mono ?_
      rintro e w1 ⟨rfl, hb1⟩
      rw [h1]
      have c3 := (hb1.cell (p := ⟨w.heap.size + 1, 0, none⟩) (by simp)).trans (show _ = some (.int .i64 bx) by go_simp)
      have c4 := (hb1.cell (p := ⟨w.heap.size + 1, 1, none⟩) (by simp)).trans (show _ = some (.int .i64 by_) by go_simp)
      go_wp2_with fail
      refine (refMay_any _ _ _).mono ?_
      rintro e w2 ⟨rfl, hb2⟩
      rw [h2]
      go_wp2
      go_ret
      exact ⟨ret_int hd.out.symm, (hb0.trans (hb1.mono hb0.size)).trans (hb2.mono (hb0.trans (hb1.mono hb0.size)).size)⟩
    · have hd := Lib.hid (distV_yes h1 h2)
      have m1 := (mayB_iff _).1 h1
      have m2 := (mayB_iff _).1 h2
      simp only at m1 m2
      go_enter Tryd.func29, Tryd.ntmps29
      go_wp2_with fail
      refine (refMay_any _ _ _).mono ?_
      rintro e w1 ⟨rfl, hb1⟩
      rw [h1]
      have c3 := (hb1.cell (p := ⟨w.heap.size + 1, 0, none⟩) (by simp)).trans (show _ = some (.int .i64 bx) by go_simp)
      have c4 := (hb1.cell (p := ⟨w.heap.size + 1, 1, none⟩) (by simp)).trans (show _ = some (.int .i64 by_) by go_simp)
      go_wp2_with fail
      refine (refMay_any _ _ _).mono ?_
      rintro e w2 ⟨rfl, hb2⟩
      rw [h2]
      have d1 := (hb2.cell (p := ⟨w.heap.size, 0, none⟩) (Nat.lt_of_lt_of_le (by simp; omega) hb1.size)).trans ((hb1.cell (p := ⟨w.heap.size, 0, none⟩) (by simp; omega)).trans (show _ = some (.int .i64 ax) by go_simp))
      have d2 := (hb2.cell (p := ⟨w.heap.size, 1, none⟩) (Nat.lt_of_lt_of_le (by simp; omega) hb1.size)).trans ((hb1.cell (p := ⟨w.heap.size, 1, none⟩) (by simp; omega)).trans (show _ = some (.int .i64 ay) by go_simp))
      have d3 := (hb2.cell (p := ⟨w.heap.size + 1, 0, none⟩) (Nat.lt_of_lt_of_le (by simp) hb1.size)).trans c3
      have d4 := (hb2.cell (p := ⟨w.heap.size + 1, 1, none⟩) (Nat.lt_of_lt_of_le (by simp) hb1.size)).trans c4
      clear c3 c4
      have hB : Below w.heap.size w w2 := (hb0.trans (hb1.mono hb0.size)).trans (hb2.mono (hb0.trans (hb1.mono hb0.size)).size)
      have g1 := gap_side m1.1 m2.1
      have g2 := gap_side m1.2 m2.2
      clear hb1 hb2 hb0
      go_wp2
      go_quiet ((go_at_call 54; refine Calls.quiet_of_same (refApart_any _ _ (by omega) (by omega) _)))
      go_wp2
      go_ret
      exact ⟨ret_int hd.out.symm, below_drewN hB nq⟩

theorem i64_wrap {n : Int} (h1 : -9223372036854775808 ≤ n) (h2 : n ≤ 9223372036854775807) : IntKind.i64.wrap n = n := by
  simp [IntKind.wrap, IntKind.bits, IntKind.signed]
  omega

end Go.Proofs.YteefkijmodcijaaDoor.Place
