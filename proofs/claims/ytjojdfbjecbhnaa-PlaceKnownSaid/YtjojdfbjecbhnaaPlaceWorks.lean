/-
  The chapter's examples of place: 'works' returns true.
-/
import Derived.Test.YtjojdfbjecbhnaaPlaceRefNear
namespace Go.Proofs.Ytjojdfbjecbhnaa.Place
open Go.RowKit Go.Proofs.Ytjojdfbjecbhnaa.Mem
set_option linter.unusedVariables false

theorem at_ex (x y : Int) (w : World) :
    Calls Try.prog 19 #[.int .i64 x, .int .i64 y] w fun e w' => e = .returned (.agg #[.int .i64 x, .int .i64 y]) ∧ w.alloc (.cells #[.int .i64 x, .int .i64 y] 23) = w' := by
  go_enter Try.func19, Try.ntmps19
  go_wp2
  refine bodyPost_ret (res_place rfl rfl (x := .int .i64 x) (y := .int .i64 y) (by go_simp) (by go_simp)) rfl ?_
  exact ⟨rfl, rfl⟩

theorem row_any (sv tv : Value) (xs ys : List (Int × Int)) (hx : xs.length ≤ 140737488351232) (w : World) (hI : Rows w.heap.size w sv xs) (hJ : Rows w.heap.size w tv ys) :
    Calls Try.prog 20 #[sv, tv] w fun e w' => e = .returned (.bool (decide (xs = ys))) ∧ Below w.heap.size w w' := by
  go_enter Try.func20, Try.ntmps20
  go_wp2_with fail
  refine (Same_any sv tv xs ys hx w hI hJ).mono ?_
  rintro e w1 ⟨rfl, hb1⟩
  go_wp2
  go_ret
  exact ⟨rfl, hb1⟩

/-- A slice that is written out. -/
theorem rows_built {W : World} {g cap : Nat} {t : TypeId} {cs : Array Value} (h : At W g t cs) (xs : List (Int × Int)) (hx : cs.toList = flat xs) : Rows W.heap.size W (.slice (some ⟨g, 0, none⟩) xs.length cap) xs := by
  refine .inr ⟨g, cap, rfl, h.inside, fun j hj => ?_⟩
  have hf := flat_get xs j hj
  rw [h.cell, h.cell, ← Array.getElem?_toList, ← Array.getElem?_toList, hx]
  exact hf

theorem Rows.keep2 {w w' : World} {sv : Value} {xs : List (Int × Int)} (h : Rows w.heap.size w sv xs) (hb : Below w.heap.size w w') {n : Nat} (hn : w'.heap.size = n) : Rows n w' sv xs := by
  subst hn
  exact h.keep hb

set_option maxRecDepth 100000 in
set_option maxHeartbeats 4000000 in
theorem works_any (w : World) : Calls Try.prog 16 #[] w fun e w' => e = .returned (.bool true) ∧ Below w.heap.size w w' := by
  go_enter Try.func16, Try.ntmps16
  go_wp2_with (go_at_call 19; refine (at_ex _ _ _).mono ?_; rintro e w' ⟨rfl, rfl⟩)
  refine (Dist_any _ _ _ _ _).mono ?_
  rintro e w1 ⟨rfl, hb1⟩
  rw [show distV (2, 3) (5, 1) = 5 from rfl]
  have hB1 : Below w.heap.size w w1 := (((Below.refl _ w).alloc (Nat.le_refl _) _).alloc (by simp) _).trans (hb1.mono (by simp; omega))
  clear hb1
  go_wp2_with (go_at_call 19; refine (at_ex _ _ _).mono ?_; rintro e w' ⟨rfl, rfl⟩)
  refine (Way_any _ _ _ _ _).mono ?_
  rintro e w2 ⟨⟨v, rfl, hr⟩, hb2⟩
  rw [show wayL (2, 3) (4, 2) = [(2, 3), (3, 3), (4, 3), (4, 2)] from rfl] at hr
  have hB2 : Below w.heap.size w w2 := ((hB1.alloc hB1.size _).alloc (by simp; have := hB1.size; omega) _).trans (hb2.mono (by simp; have := hB1.size; omega))
  clear hb2 hB1
  go_wp2_with (go_at_call 19; refine (at_ex _ _ _).mono ?_; rintro e w' ⟨rfl, rfl⟩)
  refine (row_any _ _ [(2, 3), (3, 3), (4, 3), (4, 2)] [(2, 3), (3, 3), (4, 3), (4, 2)] (by simp) _ (hr.keep (by repeat (first | exact Below.refl _ _ | refine Below.alloc ?_ (by simp <;> omega) _))) (rows_built (At.new_ _ _ _ (by simp)) _ rfl)).mono ?_
  rintro e w3 ⟨rfl, hb3⟩
  rw [show decide ([((2 : Int), (3 : Int)), (3, 3), (4, 3), (4, 2)] = [(2, 3), (3, 3), (4, 3), (4, 2)]) = true by decide]
  have hB3 : Below w.heap.size w w3 := by
    refine Below.trans ?_ (hb3.mono (by simp; have := hB2.size; omega))
    repeat (first | exact hB2 | refine Below.alloc ?_ (by have := hB2.size; first | omega | (simp; omega)) _)
  clear hb3 hB2 hr
  go_wp2_with (go_at_call 19; refine (at_ex _ _ _).mono ?_; rintro e w' ⟨rfl, rfl⟩)
  refine (Near_any _ _ _ _).mono ?_
  rintro e w4 ⟨⟨v4, rfl, hr⟩, hb4⟩
  rw [show nearL (0, 0) 1 = [(0, 0), (0, 1), (1, 0)] from rfl] at hr
  have hB4 : Below w.heap.size w w4 := (hB3.alloc hB3.size _).trans (hb4.mono (by simp; have := hB3.size; omega))
  clear hb4 hB3
  go_wp2_with (go_at_call 19; refine (at_ex _ _ _).mono ?_; rintro e w' ⟨rfl, rfl⟩)
  refine (row_any _ _ [(0, 0), (0, 1), (1, 0)] [(0, 0), (0, 1), (1, 0)] (by simp) _ (hr.keep (by repeat (first | exact Below.refl _ _ | refine Below.alloc ?_ (by simp <;> omega) _))) (rows_built (At.new_ _ _ _ (by simp)) _ rfl)).mono ?_
  rintro e w5 ⟨rfl, hb5⟩
  rw [show decide ([((0 : Int), (0 : Int)), (0, 1), (1, 0)] = [(0, 0), (0, 1), (1, 0)]) = true by decide]
  have hB5 : Below w.heap.size w w5 := by
    refine Below.trans ?_ (hb5.mono (by simp; have := hB4.size; omega))
    repeat (first | exact hB4 | refine Below.alloc ?_ (by have := hB4.size; first | omega | (simp; omega)) _)
  clear hb5 hB4 hr
  go_wp2_with (go_at_call 19; refine (at_ex _ _ _).mono ?_; rintro e w' ⟨rfl, rfl⟩)
  refine (Dist_any _ _ _ _ _).mono ?_
  rintro e w6 ⟨rfl, hb6⟩
  rw [show distV (0, 0) (1024, 0) = 0 from rfl]
  have hB6 : Below w.heap.size w w6 := ((hB5.alloc hB5.size _).alloc (by simp; have := hB5.size; omega) _).trans (hb6.mono (by simp; have := hB5.size; omega))
  clear hb6 hB5
  go_wp2_with (go_at_call 19; refine (at_ex _ _ _).mono ?_; rintro e w' ⟨rfl, rfl⟩)
  refine (Way_any _ _ _ _ _).mono ?_
  rintro e w7 ⟨⟨v7, rfl, hr⟩, hb7⟩
  rw [show wayL (-1, 0) (0, 0) = [] from rfl] at hr
  obtain ⟨a7, c7, rfl⟩ := hr.slice
  have hB7 : Below w.heap.size w w7 := ((hB6.alloc hB6.size _).alloc (by simp; have := hB6.size; omega) _).trans (hb7.mono (by simp; have := hB6.size; omega))
  clear hb7 hB6 hr
  go_wp2
  go_ret
  exact ⟨by simp, hB7⟩

end Go.Proofs.Ytjojdfbjecbhnaa.Place
