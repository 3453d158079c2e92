/-
  Contracts of package order's 'Least' and 'Tight', and of those that answer the same by definition.
-/
import Derived.Test.YtcdgfjfomiokmaaOrderRefAlone
namespace Go.Proofs.Ytcdgfjfomiokmaa.Order
open Go.RowKit Go.Sort Go.Proofs.Ytcdgfjfomiokmaa.Mem Go.Proofs.Ytcdgfjfomiokmaa.Place Go.Proofs.Ytcdgfjfomiokmaa.Window Go.Proofs.Ytcdgfjfomiokmaa.Tail
set_option linter.unusedVariables false

theorem res_rq {fn : Func} {p : Tmp} (h : fn.results = #[.cell p 27]) {tmps : Array Value} {w : World} {g : Nat} {x0 x1 x2 x3 x4 x5 x6 x7 x8 x9 : Value} (hp : tmps.getD p undef = .pointer (some ⟨g, 0, none⟩))
    (hA : At w g 27 #[x0, x1, x2, x3, x4, x5, x6, x7, x8, x9]) : (results fn tmps).run Try.prog w = .ok (.agg #[x0, x1, x2, x3, x4, x5, x6, x7, x8, x9]) w := by
  have hp' : tmps[p]?.getD undef = .pointer (some ⟨g, 0, none⟩) := by simpa using hp
  have c0 := hA.cell 0
  have c1 := hA.cell 1
  have c2 := hA.cell 2
  have c3 := hA.cell 3
  have c4 := hA.cell 4
  have c5 := hA.cell 5
  have c6 := hA.cell 6
  have c7 := hA.cell 7
  have c8 := hA.cell 8
  have c9 := hA.cell 9
  simp at c0 c1 c2 c3 c4 c5 c6 c7 c8 c9
  simp only [results, h]
  go_simp
theorem res_rqb {fn : Func} {p q : Tmp} (h : fn.results = #[.cell p 27, .tmp q]) {tmps : Array Value} {w : World} {g : Nat} {x0 x1 x2 x3 x4 x5 x6 x7 x8 x9 b : Value} (hp : tmps.getD p undef = .pointer (some ⟨g, 0, none⟩)) (hq : tmps.getD q undef = b)
    (hA : At w g 27 #[x0, x1, x2, x3, x4, x5, x6, x7, x8, x9]) : (results fn tmps).run Try.prog w = .ok (.tuple #[.agg #[x0, x1, x2, x3, x4, x5, x6, x7, x8, x9], b]) w := by
  have hp' : tmps[p]?.getD undef = .pointer (some ⟨g, 0, none⟩) := by simpa using hp
  have hq' : tmps[q]?.getD undef = b := by simpa using hq
  have c0 := hA.cell 0
  have c1 := hA.cell 1
  have c2 := hA.cell 2
  have c3 := hA.cell 3
  have c4 := hA.cell 4
  have c5 := hA.cell 5
  have c6 := hA.cell 6
  have c7 := hA.cell 7
  have c8 := hA.cell 8
  have c9 := hA.cell 9
  simp at c0 c1 c2 c3 c4 c5 c6 c7 c8 c9
  simp only [results, h]
  go_simp

/-- Ten cells, written one behind another. -/
theorem put10 {w : World} {g : Nat} {t : TypeId} {x0 x1 x2 x3 x4 x5 x6 x7 x8 x9 y0 y1 y2 y3 y4 y5 y6 y7 y8 y9 : Value} (h : At w g t #[x0, x1, x2, x3, x4, x5, x6, x7, x8, x9]) :
    At ((((((((((w.setCell ⟨g, 0, none⟩ y0).setCell ⟨g, 1, none⟩ y1).setCell ⟨g, 2, none⟩ y2).setCell ⟨g, 3, none⟩ y3).setCell ⟨g, 4, none⟩ y4).setCell ⟨g, 5, none⟩ y5).setCell ⟨g, 6, none⟩ y6).setCell ⟨g, 7, none⟩ y7).setCell ⟨g, 8, none⟩ y8).setCell ⟨g, 9, none⟩ y9) g t #[y0, y1, y2, y3, y4, y5, y6, y7, y8, y9] := by
  simpa using (((((((((h.put 0 y0).put 1 y1).put 2 y2).put 3 y3).put 4 y4).put 5 y5).put 6 y6).put 7 y7).put 8 y8).put 9 y9

theorem apart_any (fx fy tx ty pe pl de dl ld sv : Int) (hs : 0 ≤ sv ∧ sv ≤ 1000) (w : World) :
    Calls Try.prog 36 #[.agg #[.int .i64 fx, .int .i64 fy, .int .i64 tx, .int .i64 ty, .int .i64 pe, .int .i64 pl, .int .i64 de, .int .i64 dl, .int .i64 ld, .int .i64 sv]] w fun r w' => r = .returned (.int .i64 (apV fx fy tx ty pe pl de dl ld sv)) ∧ Below w.heap.size w w' := by
  have hP : At (w.alloc (.cells #[.int .i64 fx, .int .i64 fy, .int .i64 tx, .int .i64 ty, .int .i64 pe, .int .i64 pl, .int .i64 de, .int .i64 dl, .int .i64 ld, .int .i64 sv] 27)) w.heap.size 27 #[.int .i64 fx, .int .i64 fy, .int .i64 tx, .int .i64 ty, .int .i64 pe, .int .i64 pl, .int .i64 de, .int .i64 dl, .int .i64 ld, .int .i64 sv] := At.new w _ _
  have hB : Below w.heap.size w (w.alloc (.cells #[.int .i64 fx, .int .i64 fy, .int .i64 tx, .int .i64 ty, .int .i64 pe, .int .i64 pl, .int .i64 de, .int .i64 dl, .int .i64 ld, .int .i64 sv] 27)) := (Below.refl _ _).alloc (Nat.le_refl _) _
  obtain ⟨D, hD⟩ : ∃ D, distV (fx, fy) (tx, ty) = D := ⟨_, rfl⟩
  have b1 := distV_bd (fx, fy) (tx, ty)
  have hn : apV fx fy tx ty pe pl de dl ld sv = sv + D := by unfold apV; rw [hD]
  rw [hD] at b1
  have cD : ∀ w, Calls Try.prog 33 #[.agg #[.int .i64 fx, .int .i64 fy], .agg #[.int .i64 tx, .int .i64 ty]] w fun r w' => r = .returned (.int .i64 D) ∧ Below w.heap.size w w' := fun w => by rw [← hD]; exact Dist_any _ _ _ _ w
  rw [hn]
  clear hD hn
  obtain ⟨b1l, b1h⟩ := b1
  obtain ⟨hs1, hs2⟩ := hs
  go_enter Try.func36, Try.ntmps36
  go_wp2_with fail
  generalize (w.alloc (.cells #[.int .i64 fx, .int .i64 fy, .int .i64 tx, .int .i64 ty, .int .i64 pe, .int .i64 pl, .int .i64 de, .int .i64 dl, .int .i64 ld, .int .i64 sv] 27)) = w1 at *
  have c0 := hP.cell 0
  have c1 := hP.cell 1
  have c2 := hP.cell 2
  have c3 := hP.cell 3
  have c4 := hP.cell 4
  have c5 := hP.cell 5
  have c6 := hP.cell 6
  have c7 := hP.cell 7
  have c8 := hP.cell 8
  have c9 := hP.cell 9
  simp at c0 c1 c2 c3 c4 c5 c6 c7 c8 c9
  have kc0 := cell_regrown c0
  have kc1 := cell_regrown c1
  have kc2 := cell_regrown c2
  have kc3 := cell_regrown c3
  have kc4 := cell_regrown c4
  have kc5 := cell_regrown c5
  have kc6 := cell_regrown c6
  have kc7 := cell_regrown c7
  have kc8 := cell_regrown c8
  have kc9 := cell_regrown c9
  have kD := fun d os => Calls.regrown_of (cD (grow (redrawn w1 d) os))
  refine wp_region_quiet_below (by kernel_rfl) (by kernel_rfl) ?_
  repeat (go_big_quiet_step (with_reducible exact kD _ _))
  refine wpQuiet_nil ?_
  intro _ hw'
  obtain ⟨⟨dq, osq⟩, hw''⟩ := hw'
  subst hw''
  replace hB := hB.trans ((below_regrown w1 dq osq).mono hB.size)
  generalize grow (redrawn w1 dq) osq = w2 at *
  clear kD kc0 kc1 kc2 kc3 kc4 kc5 kc6 kc7 kc8 kc9 c0 c1 c2 c3 c4 c5 c6 c7 c8 c9
  go_wp2
  go_ret
  exact ⟨rfl, hB⟩

set_option maxHeartbeats 4000000 in
theorem Least_any (fx fy tx ty pe pl de dl ld sv : Int) (w : World) :
    Calls Try.prog 19 #[.agg #[.int .i64 fx, .int .i64 fy, .int .i64 tx, .int .i64 ty, .int .i64 pe, .int .i64 pl, .int .i64 de, .int .i64 dl, .int .i64 ld, .int .i64 sv]] w fun r w' => r = .returned (.int .i64 (leastV fx fy tx ty pe pl de dl ld sv)) ∧ Below w.heap.size w w' := by
  have hP : At (w.alloc (.cells #[.int .i64 fx, .int .i64 fy, .int .i64 tx, .int .i64 ty, .int .i64 pe, .int .i64 pl, .int .i64 de, .int .i64 dl, .int .i64 ld, .int .i64 sv] 27)) w.heap.size 27 #[.int .i64 fx, .int .i64 fy, .int .i64 tx, .int .i64 ty, .int .i64 pe, .int .i64 pl, .int .i64 de, .int .i64 dl, .int .i64 ld, .int .i64 sv] := At.new w _ _
  have hB : Below w.heap.size w (w.alloc (.cells #[.int .i64 fx, .int .i64 fy, .int .i64 tx, .int .i64 ty, .int .i64 pe, .int .i64 pl, .int .i64 de, .int .i64 dl, .int .i64 ld, .int .i64 sv] 27)) := (Below.refl _ _).alloc (Nat.le_refl _) _
  obtain ⟨C, hC⟩ : ∃ C, chk fx fy tx ty pe pl de dl ld sv = C := ⟨_, rfl⟩
  have cC : ∀ w, Calls Try.prog 10 #[.agg #[.int .i64 fx, .int .i64 fy, .int .i64 tx, .int .i64 ty, .int .i64 pe, .int .i64 pl, .int .i64 de, .int .i64 dl, .int .i64 ld, .int .i64 sv]] w fun r w' => r = .returned (.int .i64 C) ∧ Below w.heap.size w w' := fun w => by rw [← hC]; exact Check_any fx fy tx ty pe pl de dl ld sv w
  by_cases h1 : C = 0
  · subst h1
    have hc := (chk_iff fx fy tx ty pe pl de dl ld sv).1 hC
    obtain ⟨_, _, _, hs1, hs2⟩ := hc
    have b1 := apV_bd (fx := fx) (fy := fy) (tx := tx) (ty := ty) (pe := pe) (pl := pl) (de := de) (dl := dl) (ld := ld) (sv := sv) ⟨hs1, hs2⟩
    have hn : leastV fx fy tx ty pe pl de dl ld sv = apV fx fy tx ty pe pl de dl ld sv + sv := by unfold leastV; rw [hC]; rfl
    rw [hn]
    clear hn
    obtain ⟨A, hA⟩ : ∃ A, apV fx fy tx ty pe pl de dl ld sv = A := ⟨_, rfl⟩
    rw [hA] at b1 ⊢
    have cD : ∀ w, Calls Try.prog 36 #[.agg #[.int .i64 fx, .int .i64 fy, .int .i64 tx, .int .i64 ty, .int .i64 pe, .int .i64 pl, .int .i64 de, .int .i64 dl, .int .i64 ld, .int .i64 sv]] w fun r w' => r = .returned (.int .i64 A) ∧ Below w.heap.size w w' := fun w => by rw [← hA]; exact apart_any fx fy tx ty pe pl de dl ld sv ⟨hs1, hs2⟩ w
    obtain ⟨b1l, b1h⟩ := b1
    clear hA
    clear hC
    go_enter Try.func19, Try.ntmps19
    go_wp2_with fail
    generalize (w.alloc (.cells #[.int .i64 fx, .int .i64 fy, .int .i64 tx, .int .i64 ty, .int .i64 pe, .int .i64 pl, .int .i64 de, .int .i64 dl, .int .i64 ld, .int .i64 sv] 27)) = w0 at *
    refine (cC _).mono ?_
    rintro e w' ⟨rfl, hb1⟩
    replace hP := hP.keep hb1 hP.inside
    replace hB := hB.trans (hb1.mono hB.size)
    clear hb1
    try clear c0 c1 c2 c3 c4 c5 c6 c7 c8 c9
    have c0 := hP.cell 0
    have c1 := hP.cell 1
    have c2 := hP.cell 2
    have c3 := hP.cell 3
    have c4 := hP.cell 4
    have c5 := hP.cell 5
    have c6 := hP.cell 6
    have c7 := hP.cell 7
    have c8 := hP.cell 8
    have c9 := hP.cell 9
    simp at c0 c1 c2 c3 c4 c5 c6 c7 c8 c9
    generalize w' = w1 at *
    go_wp2_with fail
    have kc0 := cell_regrown c0
    have kc1 := cell_regrown c1
    have kc2 := cell_regrown c2
    have kc3 := cell_regrown c3
    have kc4 := cell_regrown c4
    have kc5 := cell_regrown c5
    have kc6 := cell_regrown c6
    have kc7 := cell_regrown c7
    have kc8 := cell_regrown c8
    have kc9 := cell_regrown c9
    have kD := fun d os => Calls.regrown_of (cD (grow (redrawn w1 d) os))
    refine wp_region_quiet_below (by kernel_rfl) (by kernel_rfl) ?_
    repeat (go_big_quiet_step (with_reducible exact kD _ _))
    refine wpQuiet_nil ?_
    intro _ hw'
    obtain ⟨⟨dq, osq⟩, hw''⟩ := hw'
    subst hw''
    replace hB := hB.trans ((below_regrown w1 dq osq).mono hB.size)
    generalize grow (redrawn w1 dq) osq = w2 at *
    clear kD kc0 kc1 kc2 kc3 kc4 kc5 kc6 kc7 kc8 kc9 c0 c1 c2 c3 c4 c5 c6 c7 c8 c9
    go_wp2
    go_ret
    exact ⟨ret_int (by omega), hB⟩
  · have hn := Lib.hid (show leastV fx fy tx ty pe pl de dl ld sv = 0 by unfold leastV; rw [hC]; simp [h1, orNil])
    clear hC
    go_enter Try.func19, Try.ntmps19
    go_wp2_with fail
    generalize (w.alloc (.cells #[.int .i64 fx, .int .i64 fy, .int .i64 tx, .int .i64 ty, .int .i64 pe, .int .i64 pl, .int .i64 de, .int .i64 dl, .int .i64 ld, .int .i64 sv] 27)) = w0 at *
    refine (cC _).mono ?_
    rintro e w' ⟨rfl, hb1⟩
    replace hP := hP.keep hb1 hP.inside
    replace hB := hB.trans (hb1.mono hB.size)
    clear hb1
    try clear c0 c1 c2 c3 c4 c5 c6 c7 c8 c9
    have c0 := hP.cell 0
    have c1 := hP.cell 1
    have c2 := hP.cell 2
    have c3 := hP.cell 3
    have c4 := hP.cell 4
    have c5 := hP.cell 5
    have c6 := hP.cell 6
    have c7 := hP.cell 7
    have c8 := hP.cell 8
    have c9 := hP.cell 9
    simp at c0 c1 c2 c3 c4 c5 c6 c7 c8 c9
    go_wp2
    go_ret
    exact ⟨ret_int hn.out.symm, hB⟩

set_option maxHeartbeats 4000000 in
theorem refLeast_any (fx fy tx ty pe pl de dl ld sv : Int) (w : World) :
    Calls Try.prog 20 #[.agg #[.int .i64 fx, .int .i64 fy, .int .i64 tx, .int .i64 ty, .int .i64 pe, .int .i64 pl, .int .i64 de, .int .i64 dl, .int .i64 ld, .int .i64 sv]] w fun r w' => r = .returned (.int .i64 (leastV fx fy tx ty pe pl de dl ld sv)) ∧ Below w.heap.size w w' := by
  have hP : At (w.alloc (.cells #[.int .i64 fx, .int .i64 fy, .int .i64 tx, .int .i64 ty, .int .i64 pe, .int .i64 pl, .int .i64 de, .int .i64 dl, .int .i64 ld, .int .i64 sv] 27)) w.heap.size 27 #[.int .i64 fx, .int .i64 fy, .int .i64 tx, .int .i64 ty, .int .i64 pe, .int .i64 pl, .int .i64 de, .int .i64 dl, .int .i64 ld, .int .i64 sv] := At.new w _ _
  have hB : Below w.heap.size w (w.alloc (.cells #[.int .i64 fx, .int .i64 fy, .int .i64 tx, .int .i64 ty, .int .i64 pe, .int .i64 pl, .int .i64 de, .int .i64 dl, .int .i64 ld, .int .i64 sv] 27)) := (Below.refl _ _).alloc (Nat.le_refl _) _
  obtain ⟨C, hC⟩ : ∃ C, chk fx fy tx ty pe pl de dl ld sv = C := ⟨_, rfl⟩
  have cC : ∀ w, Calls Try.prog 11 #[.agg #[.int .i64 fx, .int .i64 fy, .int .i64 tx, .int .i64 ty, .int .i64 pe, .int .i64 pl, .int .i64 de, .int .i64 dl, .int .i64 ld, .int .i64 sv]] w fun r w' => r = .returned (.int .i64 C) ∧ Below w.heap.size w w' := fun w => by rw [← hC]; exact refCheck_any fx fy tx ty pe pl de dl ld sv w
  by_cases h1 : C = 0
  · subst h1
    have hc := (chk_iff fx fy tx ty pe pl de dl ld sv).1 hC
    obtain ⟨_, _, _, hs1, hs2⟩ := hc
    have b1 := apV_bd (fx := fx) (fy := fy) (tx := tx) (ty := ty) (pe := pe) (pl := pl) (de := de) (dl := dl) (ld := ld) (sv := sv) ⟨hs1, hs2⟩
    have hn : leastV fx fy tx ty pe pl de dl ld sv = apV fx fy tx ty pe pl de dl ld sv + sv := by unfold leastV; rw [hC]; rfl
    rw [hn]
    clear hn
    obtain ⟨D, hD⟩ : ∃ D, distV (fx, fy) (tx, ty) = D := ⟨_, rfl⟩
    have b2 := distV_bd (fx, fy) (tx, ty)
    have hA : apV fx fy tx ty pe pl de dl ld sv = sv + D := by unfold apV; rw [hD]
    rw [hA] at b1 ⊢
    rw [hD] at b2
    have cD : ∀ w, Calls Try.prog 34 #[.agg #[.int .i64 fx, .int .i64 fy], .agg #[.int .i64 tx, .int .i64 ty]] w fun r w' => r = .returned (.int .i64 D) ∧ Below w.heap.size w w' := fun w => by rw [← hD]; exact refDist_any _ _ _ _ w
    obtain ⟨b1l, b1h⟩ := b1
    obtain ⟨b2l, b2h⟩ := b2
    clear hA hD
    clear hC
    go_enter Try.func20, Try.ntmps20
    go_wp2_with fail
    generalize (w.alloc (.cells #[.int .i64 fx, .int .i64 fy, .int .i64 tx, .int .i64 ty, .int .i64 pe, .int .i64 pl, .int .i64 de, .int .i64 dl, .int .i64 ld, .int .i64 sv] 27)) = w0 at *
    refine (cC _).mono ?_
    rintro e w' ⟨rfl, hb1⟩
    replace hP := hP.keep hb1 hP.inside
    replace hB := hB.trans (hb1.mono hB.size)
    clear hb1
    try clear c0 c1 c2 c3 c4 c5 c6 c7 c8 c9
    have c0 := hP.cell 0
    have c1 := hP.cell 1
    have c2 := hP.cell 2
    have c3 := hP.cell 3
    have c4 := hP.cell 4
    have c5 := hP.cell 5
    have c6 := hP.cell 6
    have c7 := hP.cell 7
    have c8 := hP.cell 8
    have c9 := hP.cell 9
    simp at c0 c1 c2 c3 c4 c5 c6 c7 c8 c9
    generalize w' = w1 at *
    go_wp2_with fail
    have kc0 := cell_regrown c0
    have kc1 := cell_regrown c1
    have kc2 := cell_regrown c2
    have kc3 := cell_regrown c3
    have kc4 := cell_regrown c4
    have kc5 := cell_regrown c5
    have kc6 := cell_regrown c6
    have kc7 := cell_regrown c7
    have kc8 := cell_regrown c8
    have kc9 := cell_regrown c9
    have kD := fun d os => Calls.regrown_of (cD (grow (redrawn w1 d) os))
    refine wp_region_quiet_below (by kernel_rfl) (by kernel_rfl) ?_
    repeat (go_big_quiet_step (with_reducible exact kD _ _))
    refine wpQuiet_nil ?_
    intro _ hw'
    obtain ⟨⟨dq, osq⟩, hw''⟩ := hw'
    subst hw''
    replace hB := hB.trans ((below_regrown w1 dq osq).mono hB.size)
    generalize grow (redrawn w1 dq) osq = w2 at *
    clear kD kc0 kc1 kc2 kc3 kc4 kc5 kc6 kc7 kc8 kc9 c0 c1 c2 c3 c4 c5 c6 c7 c8 c9
    go_wp2
    go_ret
    exact ⟨ret_int (by omega), hB⟩
  · have hn := Lib.hid (show leastV fx fy tx ty pe pl de dl ld sv = 0 by unfold leastV; rw [hC]; simp [h1, orNil])
    clear hC
    go_enter Try.func20, Try.ntmps20
    go_wp2_with fail
    generalize (w.alloc (.cells #[.int .i64 fx, .int .i64 fy, .int .i64 tx, .int .i64 ty, .int .i64 pe, .int .i64 pl, .int .i64 de, .int .i64 dl, .int .i64 ld, .int .i64 sv] 27)) = w0 at *
    refine (cC _).mono ?_
    rintro e w' ⟨rfl, hb1⟩
    replace hP := hP.keep hb1 hP.inside
    replace hB := hB.trans (hb1.mono hB.size)
    clear hb1
    try clear c0 c1 c2 c3 c4 c5 c6 c7 c8 c9
    have c0 := hP.cell 0
    have c1 := hP.cell 1
    have c2 := hP.cell 2
    have c3 := hP.cell 3
    have c4 := hP.cell 4
    have c5 := hP.cell 5
    have c6 := hP.cell 6
    have c7 := hP.cell 7
    have c8 := hP.cell 8
    have c9 := hP.cell 9
    simp at c0 c1 c2 c3 c4 c5 c6 c7 c8 c9
    go_wp2
    go_ret
    exact ⟨ret_int hn.out.symm, hB⟩

end Go.Proofs.Ytcdgfjfomiokmaa.Order
