/-
  The chapter's examples of order: 'works' returns true.
-/
import Derived.Test.YtcdgfjfomiokmaaOrderVeh
namespace Go.Proofs.Ytcdgfjfomiokmaa.Order
open Go.RowKit Go.Sort Go.Proofs.Ytcdgfjfomiokmaa.Mem Go.Proofs.Ytcdgfjfomiokmaa.Place Go.Proofs.Ytcdgfjfomiokmaa.Window
set_option linter.unusedVariables false

theorem res_rv {fn : Func} {p q : Tmp} (h : fn.results = #[.cell p 27, .cell q 29]) {tmps : Array Value} {w : World} {g k : Nat} {x0 x1 x2 x3 x4 x5 x6 x7 x8 x9 y0 y1 y2 y3 y4 : Value} (hp : tmps.getD p undef = .pointer (some ⟨g, 0, none⟩)) (hq : tmps.getD q undef = .pointer (some ⟨k, 0, none⟩))
    (hA : At w g 27 #[x0, x1, x2, x3, x4, x5, x6, x7, x8, x9]) (hB : At w k 29 #[y0, y1, y2, y3, y4]) : (results fn tmps).run Try.prog w = .ok (.tuple #[.agg #[x0, x1, x2, x3, x4, x5, x6, x7, x8, x9], .agg #[y0, y1, y2, y3, y4]]) w := by
  have hp' : tmps[p]?.getD undef = .pointer (some ⟨g, 0, none⟩) := by simpa using hp
  have hq' : tmps[q]?.getD undef = .pointer (some ⟨k, 0, none⟩) := by simpa using hq
  have c0 := hA.cell 0
  have c1 := hA.cell 1
  have c2 := hA.cell 2
  have c3 := hA.cell 3
  have c4 := hA.cell 4
  have c5 := hA.cell 5
  have c6 := hA.cell 6
  have c7 := hA.cell 7
  have c8 := hA.cell 8
  have c9 := hA.cell 9
  simp at c0 c1 c2 c3 c4 c5 c6 c7 c8 c9
  have d0 := hB.cell 0
  have d1 := hB.cell 1
  have d2 := hB.cell 2
  have d3 := hB.cell 3
  have d4 := hB.cell 4
  simp at d0 d1 d2 d3 d4
  simp only [results, h]
  go_simp

theorem first_any (w : World) : Calls Try.prog 21 #[] w fun r w' => r = .returned (.tuple #[.agg #[.int .i64 0, .int .i64 0, .int .i64 3, .int .i64 4, .int .i64 10, .int .i64 20, .int .i64 0, .int .i64 40, .int .i64 5, .int .i64 2], .agg #[.int .i64 0, .int .i64 1, .int .i64 5, .int .i64 0, .int .i64 60]]) ∧ Below w.heap.size w w' := by
  go_enter Try.func21, Try.ntmps21
  go_wp2
  refine bodyPost_ret (res_rv rfl rfl rfl (x0 := .int .i64 0) (x1 := .int .i64 0) (x2 := .int .i64 3) (x3 := .int .i64 4) (x4 := .int .i64 10) (x5 := .int .i64 20) (x6 := .int .i64 0) (x7 := .int .i64 40) (x8 := .int .i64 5) (x9 := .int .i64 2) (y0 := .int .i64 0) (y1 := .int .i64 1) (y2 := .int .i64 5) (y3 := .int .i64 0) (y4 := .int .i64 60) (by first | exact At.new_ _ _ _ (by simp) | exact (At.new _ _ _).alloc _ | exact (At.new_ _ _ _ (by simp)).alloc _) (by exact At.new_ _ _ _ (by simp))) rfl ?_
  exact ⟨rfl, by repeat (first | exact Below.refl _ _ | refine Below.alloc ?_ (by simp <;> omega) _ | refine Below.setCell ?_ (by simp <;> omega) _)⟩

set_option maxHeartbeats 8000000 in
theorem works_any (w : World) : Calls Try.prog 14 #[] w fun r w' => r = .returned (.bool true) ∧ Below w.heap.size w w' := by
  go_enter Try.func14, Try.ntmps14
  go_wp2_with fail
  refine (first_any _).mono ?_
  rintro e w1 ⟨rfl, hB⟩
  have k1 : ∀ w, Calls Try.prog 10 #[.agg #[.int .i64 0, .int .i64 0, .int .i64 3, .int .i64 4, .int .i64 10, .int .i64 20, .int .i64 0, .int .i64 40, .int .i64 5, .int .i64 2]] w fun r w' => r = .returned (.int .i64 0) ∧ Below w.heap.size w w' := fun w => by have h := Check_any 0 0 3 4 10 20 0 40 5 2 w; rw [show chk 0 0 3 4 10 20 0 40 5 2 = 0 by decide] at h; exact h
  have k2 : ∀ w, Calls Try.prog 12 #[.agg #[.int .i64 0, .int .i64 1, .int .i64 5, .int .i64 0, .int .i64 60]] w fun r w' => r = .returned (.int .i64 0) ∧ Below w.heap.size w w' := fun w => by have h := Vehicle_any 0 1 5 0 60 w; rw [show veh 0 1 5 0 60 = 0 by decide] at h; exact h
  have k3 : ∀ w, Calls Try.prog 19 #[.agg #[.int .i64 0, .int .i64 0, .int .i64 3, .int .i64 4, .int .i64 10, .int .i64 20, .int .i64 0, .int .i64 40, .int .i64 5, .int .i64 2]] w fun r w' => r = .returned (.int .i64 11) ∧ Below w.heap.size w w' := fun w => by have h := Least_any 0 0 3 4 10 20 0 40 5 2 w; rw [show leastV 0 0 3 4 10 20 0 40 5 2 = 11 by decide] at h; exact h
  have k4 : ∀ w, Calls Try.prog 15 #[.agg #[.int .i64 0, .int .i64 0, .int .i64 3, .int .i64 4, .int .i64 10, .int .i64 20, .int .i64 0, .int .i64 40, .int .i64 5, .int .i64 2], .agg #[.int .i64 0, .int .i64 1, .int .i64 5, .int .i64 0, .int .i64 60]] w fun r w' => r = .returned (.tuple #[.int .i64 27, .bool true]) ∧ Below w.heap.size w w' := fun w => by have h := Alone_any 0 0 3 4 10 20 0 40 5 2 0 1 5 0 60 w; rw [show aloneV 0 0 3 4 10 20 0 40 5 2 0 1 5 0 60 = 27 by decide, show aloneB 0 0 3 4 10 20 0 40 5 2 0 1 5 0 60 = true by decide] at h; exact h
  have k5 : ∀ w, Calls Try.prog 17 #[.agg #[.int .i64 0, .int .i64 0, .int .i64 3, .int .i64 4, .int .i64 10, .int .i64 20, .int .i64 0, .int .i64 40, .int .i64 5, .int .i64 2]] w fun r w' => r = .returned (.tuple #[.agg #[.int .i64 0, .int .i64 0, .int .i64 3, .int .i64 4, .int .i64 10, .int .i64 20, .int .i64 19, .int .i64 40, .int .i64 5, .int .i64 2], .bool true]) ∧ Below w.heap.size w w' := fun w => by have h := Tight_any 0 0 3 4 10 20 0 40 5 2 w; rw [show tightB 0 0 3 4 10 20 0 40 5 2 = true by decide, show tightL 0 0 3 4 10 20 0 40 5 2 = 20 by decide, show tightE 0 0 3 4 10 20 0 40 5 2 = 19 by decide] at h; exact h
  have k6 : ∀ w, Calls Try.prog 15 #[.agg #[.int .i64 0, .int .i64 0, .int .i64 3, .int .i64 4, .int .i64 10, .int .i64 20, .int .i64 0, .int .i64 40, .int .i64 6, .int .i64 2], .agg #[.int .i64 0, .int .i64 1, .int .i64 5, .int .i64 0, .int .i64 60]] w fun r w' => r = .returned (.tuple #[.int .i64 0, .bool false]) ∧ Below w.heap.size w w' := fun w => by have h := Alone_any 0 0 3 4 10 20 0 40 6 2 0 1 5 0 60 w; rw [show aloneV 0 0 3 4 10 20 0 40 6 2 0 1 5 0 60 = 0 by decide, show aloneB 0 0 3 4 10 20 0 40 6 2 0 1 5 0 60 = false by decide] at h; exact h
  have k7 : ∀ w, Calls Try.prog 15 #[.agg #[.int .i64 0, .int .i64 0, .int .i64 3, .int .i64 4, .int .i64 10, .int .i64 20, .int .i64 0, .int .i64 40, .int .i64 5, .int .i64 2], .agg #[.int .i64 0, .int .i64 1, .int .i64 5, .int .i64 0, .int .i64 26]] w fun r w' => r = .returned (.tuple #[.int .i64 0, .bool false]) ∧ Below w.heap.size w w' := fun w => by have h := Alone_any 0 0 3 4 10 20 0 40 5 2 0 1 5 0 26 w; rw [show aloneV 0 0 3 4 10 20 0 40 5 2 0 1 5 0 26 = 0 by decide, show aloneB 0 0 3 4 10 20 0 40 5 2 0 1 5 0 26 = false by decide] at h; exact h
  go_wp2_with fail
  have hP : At ((w1.alloc (.cells #[.int .i64 0, .int .i64 0, .int .i64 3, .int .i64 4, .int .i64 10, .int .i64 20, .int .i64 0, .int .i64 40, .int .i64 5, .int .i64 2] 27)).alloc (.cells #[.int .i64 0, .int .i64 1, .int .i64 5, .int .i64 0, .int .i64 60] 29)) w1.heap.size 27 #[.int .i64 0, .int .i64 0, .int .i64 3, .int .i64 4, .int .i64 10, .int .i64 20, .int .i64 0, .int .i64 40, .int .i64 5, .int .i64 2] := (At.new w1 _ _).alloc _
  have hV : At ((w1.alloc (.cells #[.int .i64 0, .int .i64 0, .int .i64 3, .int .i64 4, .int .i64 10, .int .i64 20, .int .i64 0, .int .i64 40, .int .i64 5, .int .i64 2] 27)).alloc (.cells #[.int .i64 0, .int .i64 1, .int .i64 5, .int .i64 0, .int .i64 60] 29)) (w1.heap.size + 1) 29 #[.int .i64 0, .int .i64 1, .int .i64 5, .int .i64 0, .int .i64 60] := At.new_ _ _ _ (by simp)
  have hgw := hB.size
  replace hB := (hB.alloc hB.size (.cells #[.int .i64 0, .int .i64 0, .int .i64 3, .int .i64 4, .int .i64 10, .int .i64 20, .int .i64 0, .int .i64 40, .int .i64 5, .int .i64 2] 27)).alloc (by simp; omega) (.cells #[.int .i64 0, .int .i64 1, .int .i64 5, .int .i64 0, .int .i64 60] 29)
  generalize ((w1.alloc (.cells #[.int .i64 0, .int .i64 0, .int .i64 3, .int .i64 4, .int .i64 10, .int .i64 20, .int .i64 0, .int .i64 40, .int .i64 5, .int .i64 2] 27)).alloc (.cells #[.int .i64 0, .int .i64 1, .int .i64 5, .int .i64 0, .int .i64 60] 29)) = w2 at *
  generalize w1.heap.size = g at *
  refine (k1 _).mono ?_
  rintro e w' ⟨rfl, hb1⟩
  replace hP := hP.keep hb1 hP.inside
  replace hV := hV.keep hb1 hV.inside
  replace hB := hB.trans (hb1.mono hB.size)
  clear hb1
  try clear c0 c1 c2 c3 c4 c5 c6 c7 c8 c9 v0 v1 v2 v3 v4
  have c0 := hP.cell 0
  have c1 := hP.cell 1
  have c2 := hP.cell 2
  have c3 := hP.cell 3
  have c4 := hP.cell 4
  have c5 := hP.cell 5
  have c6 := hP.cell 6
  have c7 := hP.cell 7
  have c8 := hP.cell 8
  have c9 := hP.cell 9
  simp at c0 c1 c2 c3 c4 c5 c6 c7 c8 c9
  have v0 := hV.cell 0
  have v1 := hV.cell 1
  have v2 := hV.cell 2
  have v3 := hV.cell 3
  have v4 := hV.cell 4
  simp at v0 v1 v2 v3 v4
  go_wp2_with fail
  refine (k2 _).mono ?_
  rintro e w' ⟨rfl, hb1⟩
  replace hP := hP.keep hb1 hP.inside
  replace hV := hV.keep hb1 hV.inside
  replace hB := hB.trans (hb1.mono hB.size)
  clear hb1
  try clear c0 c1 c2 c3 c4 c5 c6 c7 c8 c9 v0 v1 v2 v3 v4
  have c0 := hP.cell 0
  have c1 := hP.cell 1
  have c2 := hP.cell 2
  have c3 := hP.cell 3
  have c4 := hP.cell 4
  have c5 := hP.cell 5
  have c6 := hP.cell 6
  have c7 := hP.cell 7
  have c8 := hP.cell 8
  have c9 := hP.cell 9
  simp at c0 c1 c2 c3 c4 c5 c6 c7 c8 c9
  have v0 := hV.cell 0
  have v1 := hV.cell 1
  have v2 := hV.cell 2
  have v3 := hV.cell 3
  have v4 := hV.cell 4
  simp at v0 v1 v2 v3 v4
  go_wp2_with fail
  refine (k3 _).mono ?_
  rintro e w' ⟨rfl, hb1⟩
  replace hP := hP.keep hb1 hP.inside
  replace hV := hV.keep hb1 hV.inside
  replace hB := hB.trans (hb1.mono hB.size)
  clear hb1
  try clear c0 c1 c2 c3 c4 c5 c6 c7 c8 c9 v0 v1 v2 v3 v4
  have c0 := hP.cell 0
  have c1 := hP.cell 1
  have c2 := hP.cell 2
  have c3 := hP.cell 3
  have c4 := hP.cell 4
  have c5 := hP.cell 5
  have c6 := hP.cell 6
  have c7 := hP.cell 7
  have c8 := hP.cell 8
  have c9 := hP.cell 9
  simp at c0 c1 c2 c3 c4 c5 c6 c7 c8 c9
  have v0 := hV.cell 0
  have v1 := hV.cell 1
  have v2 := hV.cell 2
  have v3 := hV.cell 3
  have v4 := hV.cell 4
  simp at v0 v1 v2 v3 v4
  go_wp2_with fail
  refine (k4 _).mono ?_
  rintro e w' ⟨rfl, hb1⟩
  replace hP := hP.keep hb1 hP.inside
  replace hV := hV.keep hb1 hV.inside
  replace hB := hB.trans (hb1.mono hB.size)
  clear hb1
  try clear c0 c1 c2 c3 c4 c5 c6 c7 c8 c9 v0 v1 v2 v3 v4
  have c0 := hP.cell 0
  have c1 := hP.cell 1
  have c2 := hP.cell 2
  have c3 := hP.cell 3
  have c4 := hP.cell 4
  have c5 := hP.cell 5
  have c6 := hP.cell 6
  have c7 := hP.cell 7
  have c8 := hP.cell 8
  have c9 := hP.cell 9
  simp at c0 c1 c2 c3 c4 c5 c6 c7 c8 c9
  have v0 := hV.cell 0
  have v1 := hV.cell 1
  have v2 := hV.cell 2
  have v3 := hV.cell 3
  have v4 := hV.cell 4
  simp at v0 v1 v2 v3 v4
  go_wp2_with fail
  refine (k5 _).mono ?_
  rintro e w' ⟨rfl, hb1⟩
  replace hP := hP.keep hb1 hP.inside
  replace hV := hV.keep hb1 hV.inside
  replace hB := hB.trans (hb1.mono hB.size)
  clear hb1
  try clear c0 c1 c2 c3 c4 c5 c6 c7 c8 c9 v0 v1 v2 v3 v4
  have c0 := hP.cell 0
  have c1 := hP.cell 1
  have c2 := hP.cell 2
  have c3 := hP.cell 3
  have c4 := hP.cell 4
  have c5 := hP.cell 5
  have c6 := hP.cell 6
  have c7 := hP.cell 7
  have c8 := hP.cell 8
  have c9 := hP.cell 9
  simp at c0 c1 c2 c3 c4 c5 c6 c7 c8 c9
  have v0 := hV.cell 0
  have v1 := hV.cell 1
  have v2 := hV.cell 2
  have v3 := hV.cell 3
  have v4 := hV.cell 4
  simp at v0 v1 v2 v3 v4
  have hpi := hP.inside
  have hvi := hV.inside
  have hfp := hP.free
  have hfv := hV.free
  go_wp2_with fail
  have hT : At (((w'.setCell ⟨g, 8, none⟩ (.int .i64 6)).alloc (.cells #[.int .i64 0, .int .i64 0, .int .i64 3, .int .i64 4, .int .i64 10, .int .i64 20, .int .i64 19, .int .i64 40, .int .i64 5, .int .i64 2] 27)).alloc (.cells #[.int .i64 0, .int .i64 0, .int .i64 3, .int .i64 4, .int .i64 10, .int .i64 20, .int .i64 19, .int .i64 40, .int .i64 5, .int .i64 2] 27)) w'.heap.size 27 #[.int .i64 0, .int .i64 0, .int .i64 3, .int .i64 4, .int .i64 10, .int .i64 20, .int .i64 19, .int .i64 40, .int .i64 5, .int .i64 2] := (At.new_ _ _ _ (by simp)).alloc _
  have hU : At (((w'.setCell ⟨g, 8, none⟩ (.int .i64 6)).alloc (.cells #[.int .i64 0, .int .i64 0, .int .i64 3, .int .i64 4, .int .i64 10, .int .i64 20, .int .i64 19, .int .i64 40, .int .i64 5, .int .i64 2] 27)).alloc (.cells #[.int .i64 0, .int .i64 0, .int .i64 3, .int .i64 4, .int .i64 10, .int .i64 20, .int .i64 19, .int .i64 40, .int .i64 5, .int .i64 2] 27)) (w'.heap.size + 1) 27 #[.int .i64 0, .int .i64 0, .int .i64 3, .int .i64 4, .int .i64 10, .int .i64 20, .int .i64 19, .int .i64 40, .int .i64 5, .int .i64 2] := At.new_ _ _ _ (by simp)
  replace hP : At (((w'.setCell ⟨g, 8, none⟩ (.int .i64 6)).alloc (.cells #[.int .i64 0, .int .i64 0, .int .i64 3, .int .i64 4, .int .i64 10, .int .i64 20, .int .i64 19, .int .i64 40, .int .i64 5, .int .i64 2] 27)).alloc (.cells #[.int .i64 0, .int .i64 0, .int .i64 3, .int .i64 4, .int .i64 10, .int .i64 20, .int .i64 19, .int .i64 40, .int .i64 5, .int .i64 2] 27)) g 27 #[.int .i64 0, .int .i64 0, .int .i64 3, .int .i64 4, .int .i64 10, .int .i64 20, .int .i64 0, .int .i64 40, .int .i64 6, .int .i64 2] := by simpa using ((hP.put 8 (.int .i64 6)).alloc (.cells #[.int .i64 0, .int .i64 0, .int .i64 3, .int .i64 4, .int .i64 10, .int .i64 20, .int .i64 19, .int .i64 40, .int .i64 5, .int .i64 2] 27)).alloc (.cells #[.int .i64 0, .int .i64 0, .int .i64 3, .int .i64 4, .int .i64 10, .int .i64 20, .int .i64 19, .int .i64 40, .int .i64 5, .int .i64 2] 27)
  replace hV : At (((w'.setCell ⟨g, 8, none⟩ (.int .i64 6)).alloc (.cells #[.int .i64 0, .int .i64 0, .int .i64 3, .int .i64 4, .int .i64 10, .int .i64 20, .int .i64 19, .int .i64 40, .int .i64 5, .int .i64 2] 27)).alloc (.cells #[.int .i64 0, .int .i64 0, .int .i64 3, .int .i64 4, .int .i64 10, .int .i64 20, .int .i64 19, .int .i64 40, .int .i64 5, .int .i64 2] 27)) (g + 1) 29 #[.int .i64 0, .int .i64 1, .int .i64 5, .int .i64 0, .int .i64 60] := ((hV.far (by omega) 8 _).alloc _).alloc _
  replace hB : Below w.heap.size w (((w'.setCell ⟨g, 8, none⟩ (.int .i64 6)).alloc (.cells #[.int .i64 0, .int .i64 0, .int .i64 3, .int .i64 4, .int .i64 10, .int .i64 20, .int .i64 19, .int .i64 40, .int .i64 5, .int .i64 2] 27)).alloc (.cells #[.int .i64 0, .int .i64 0, .int .i64 3, .int .i64 4, .int .i64 10, .int .i64 20, .int .i64 19, .int .i64 40, .int .i64 5, .int .i64 2] 27)) := by
    have hs := hB.size
    exact (((hB.setCell (by show w.heap.size ≤ g; omega) _).alloc (by simp; omega) _).alloc (by simp; omega) _)
  generalize (((w'.setCell ⟨g, 8, none⟩ (.int .i64 6)).alloc (.cells #[.int .i64 0, .int .i64 0, .int .i64 3, .int .i64 4, .int .i64 10, .int .i64 20, .int .i64 19, .int .i64 40, .int .i64 5, .int .i64 2] 27)).alloc (.cells #[.int .i64 0, .int .i64 0, .int .i64 3, .int .i64 4, .int .i64 10, .int .i64 20, .int .i64 19, .int .i64 40, .int .i64 5, .int .i64 2] 27)) = w3 at *
  generalize w'.heap.size = t at *
  clear c0 c1 c2 c3 c4 c5 c6 c7 c8 c9 v0 v1 v2 v3 v4 hfp hfv
  refine (k6 _).mono ?_
  rintro e w' ⟨rfl, hb1⟩
  replace hP := hP.keep hb1 hP.inside
  replace hV := hV.keep hb1 hV.inside
  replace hT := hT.keep hb1 hT.inside
  replace hU := hU.keep hb1 hU.inside
  replace hB := hB.trans (hb1.mono hB.size)
  clear hb1
  try clear c0 c1 c2 c3 c4 c5 c6 c7 c8 c9 v0 v1 v2 v3 v4 t0 t1 t2 t3 t4 t5 t6 t7 t8 t9 u0 u1 u2 u3 u4 u5 u6 u7 u8 u9
  have c0 := hP.cell 0
  have c1 := hP.cell 1
  have c2 := hP.cell 2
  have c3 := hP.cell 3
  have c4 := hP.cell 4
  have c5 := hP.cell 5
  have c6 := hP.cell 6
  have c7 := hP.cell 7
  have c8 := hP.cell 8
  have c9 := hP.cell 9
  simp at c0 c1 c2 c3 c4 c5 c6 c7 c8 c9
  have v0 := hV.cell 0
  have v1 := hV.cell 1
  have v2 := hV.cell 2
  have v3 := hV.cell 3
  have v4 := hV.cell 4
  simp at v0 v1 v2 v3 v4
  have t0 := hT.cell 0
  have t1 := hT.cell 1
  have t2 := hT.cell 2
  have t3 := hT.cell 3
  have t4 := hT.cell 4
  have t5 := hT.cell 5
  have t6 := hT.cell 6
  have t7 := hT.cell 7
  have t8 := hT.cell 8
  have t9 := hT.cell 9
  simp at t0 t1 t2 t3 t4 t5 t6 t7 t8 t9
  have u0 := hU.cell 0
  have u1 := hU.cell 1
  have u2 := hU.cell 2
  have u3 := hU.cell 3
  have u4 := hU.cell 4
  have u5 := hU.cell 5
  have u6 := hU.cell 6
  have u7 := hU.cell 7
  have u8 := hU.cell 8
  have u9 := hU.cell 9
  simp at u0 u1 u2 u3 u4 u5 u6 u7 u8 u9
  have hfp := hP.free
  have hfv := hV.free
  go_wp2_with fail
  replace hP : At ((w'.setCell ⟨g, 8, none⟩ (.int .i64 5)).setCell ⟨g + 1, 4, none⟩ (.int .i64 26)) g 27 #[.int .i64 0, .int .i64 0, .int .i64 3, .int .i64 4, .int .i64 10, .int .i64 20, .int .i64 0, .int .i64 40, .int .i64 5, .int .i64 2] := by simpa using (hP.put 8 (.int .i64 5)).far (by omega) 4 (.int .i64 26)
  replace hV : At ((w'.setCell ⟨g, 8, none⟩ (.int .i64 5)).setCell ⟨g + 1, 4, none⟩ (.int .i64 26)) (g + 1) 29 #[.int .i64 0, .int .i64 1, .int .i64 5, .int .i64 0, .int .i64 26] := by simpa using (hV.far (by omega) 8 (.int .i64 5)).put 4 (.int .i64 26)
  replace hT : At ((w'.setCell ⟨g, 8, none⟩ (.int .i64 5)).setCell ⟨g + 1, 4, none⟩ (.int .i64 26)) t 27 #[.int .i64 0, .int .i64 0, .int .i64 3, .int .i64 4, .int .i64 10, .int .i64 20, .int .i64 19, .int .i64 40, .int .i64 5, .int .i64 2] := (hT.far (by omega) 8 _).far (by omega) 4 _
  replace hU : At ((w'.setCell ⟨g, 8, none⟩ (.int .i64 5)).setCell ⟨g + 1, 4, none⟩ (.int .i64 26)) (t + 1) 27 #[.int .i64 0, .int .i64 0, .int .i64 3, .int .i64 4, .int .i64 10, .int .i64 20, .int .i64 19, .int .i64 40, .int .i64 5, .int .i64 2] := (hU.far (by omega) 8 _).far (by omega) 4 _
  replace hB : Below w.heap.size w ((w'.setCell ⟨g, 8, none⟩ (.int .i64 5)).setCell ⟨g + 1, 4, none⟩ (.int .i64 26)) := (hB.setCell (by show w.heap.size ≤ g; omega) _).setCell (by show w.heap.size ≤ g + 1; omega) _
  generalize ((w'.setCell ⟨g, 8, none⟩ (.int .i64 5)).setCell ⟨g + 1, 4, none⟩ (.int .i64 26)) = w5 at *
  clear c0 c1 c2 c3 c4 c5 c6 c7 c8 c9 v0 v1 v2 v3 v4 t0 t1 t2 t3 t4 t5 t6 t7 t8 t9 u0 u1 u2 u3 u4 u5 u6 u7 u8 u9 hfp hfv
  refine (k7 _).mono ?_
  rintro e w' ⟨rfl, hb1⟩
  replace hP := hP.keep hb1 hP.inside
  replace hV := hV.keep hb1 hV.inside
  replace hT := hT.keep hb1 hT.inside
  replace hU := hU.keep hb1 hU.inside
  replace hB := hB.trans (hb1.mono hB.size)
  clear hb1
  try clear c0 c1 c2 c3 c4 c5 c6 c7 c8 c9 v0 v1 v2 v3 v4 t0 t1 t2 t3 t4 t5 t6 t7 t8 t9 u0 u1 u2 u3 u4 u5 u6 u7 u8 u9
  have c0 := hP.cell 0
  have c1 := hP.cell 1
  have c2 := hP.cell 2
  have c3 := hP.cell 3
  have c4 := hP.cell 4
  have c5 := hP.cell 5
  have c6 := hP.cell 6
  have c7 := hP.cell 7
  have c8 := hP.cell 8
  have c9 := hP.cell 9
  simp at c0 c1 c2 c3 c4 c5 c6 c7 c8 c9
  have v0 := hV.cell 0
  have v1 := hV.cell 1
  have v2 := hV.cell 2
  have v3 := hV.cell 3
  have v4 := hV.cell 4
  simp at v0 v1 v2 v3 v4
  have t0 := hT.cell 0
  have t1 := hT.cell 1
  have t2 := hT.cell 2
  have t3 := hT.cell 3
  have t4 := hT.cell 4
  have t5 := hT.cell 5
  have t6 := hT.cell 6
  have t7 := hT.cell 7
  have t8 := hT.cell 8
  have t9 := hT.cell 9
  simp at t0 t1 t2 t3 t4 t5 t6 t7 t8 t9
  have u0 := hU.cell 0
  have u1 := hU.cell 1
  have u2 := hU.cell 2
  have u3 := hU.cell 3
  have u4 := hU.cell 4
  have u5 := hU.cell 5
  have u6 := hU.cell 6
  have u7 := hU.cell 7
  have u8 := hU.cell 8
  have u9 := hU.cell 9
  simp at u0 u1 u2 u3 u4 u5 u6 u7 u8 u9
  go_wp2
  go_ret
  exact ⟨ret_bool (by simp), hB⟩

end Go.Proofs.Ytcdgfjfomiokmaa.Order
