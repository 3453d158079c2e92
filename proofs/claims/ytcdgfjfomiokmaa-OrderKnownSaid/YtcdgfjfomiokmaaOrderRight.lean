/-
  The contract of the statements' own 'right': a request that may be, of one that is drawn.
-/
import Derived.Test.YtcdgfjfomiokmaaOrderDraw
namespace Go.Proofs.Ytcdgfjfomiokmaa.Order
open Go.RowKit Go.Sort Go.Proofs.Ytcdgfjfomiokmaa.Mem Go.Proofs.Ytcdgfjfomiokmaa.Place Go.Proofs.Ytcdgfjfomiokmaa.Window Go.Proofs.Ytcdgfjfomiokmaa.Tail Go.Proofs.Ytcdgfjfomiokmaa.Float
set_option linter.unusedVariables false

set_option maxHeartbeats 8000000 in
theorem right_f (fx fy tx ty pe pl de dl ld sv : Int) : ∃ fx2 fy2 tx2 ty2 pe2 pl2 de2 dl2 ld2 sv2 : Int, ∀ w, Calls Try.prog 8 #[.agg #[.int .i64 fx, .int .i64 fy, .int .i64 tx, .int .i64 ty, .int .i64 pe, .int .i64 pl, .int .i64 de, .int .i64 dl, .int .i64 ld, .int .i64 sv], .bool false] w fun r w' => r = .returned (.agg #[.int .i64 fx2, .int .i64 fy2, .int .i64 tx2, .int .i64 ty2, .int .i64 pe2, .int .i64 pl2, .int .i64 de2, .int .i64 dl2, .int .i64 ld2, .int .i64 sv2]) ∧ Below w.heap.size w w' := by
  obtain ⟨A0, hA0, hA0'⟩ : ∃ A, btwV fx 0 1023 = A ∧ 0 ≤ A ∧ A ≤ 1023 := ⟨_, rfl, btwV_bd _ _ _ (by omega)⟩
  obtain ⟨A1, hA1, hA1'⟩ : ∃ A, btwV fy 0 1023 = A ∧ 0 ≤ A ∧ A ≤ 1023 := ⟨_, rfl, btwV_bd _ _ _ (by omega)⟩
  obtain ⟨A2, hA2, hA2'⟩ : ∃ A, btwV tx 0 1023 = A ∧ 0 ≤ A ∧ A ≤ 1023 := ⟨_, rfl, btwV_bd _ _ _ (by omega)⟩
  obtain ⟨A3, hA3, hA3'⟩ : ∃ A, btwV ty 0 1023 = A ∧ 0 ≤ A ∧ A ≤ 1023 := ⟨_, rfl, btwV_bd _ _ _ (by omega)⟩
  obtain ⟨A8, hA8, hA8'⟩ : ∃ A, btwV ld 1 1000 = A ∧ 1 ≤ A ∧ A ≤ 1000 := ⟨_, rfl, btwV_bd _ _ _ (by omega)⟩
  obtain ⟨A9, hA9, hA9'⟩ : ∃ A, btwV sv 0 1000 = A ∧ 0 ≤ A ∧ A ≤ 1000 := ⟨_, rfl, btwV_bd _ _ _ (by omega)⟩
  obtain ⟨A4, hA4⟩ : ∃ A, min (btwV pe 0 1048576) (btwV pl 0 1048576) = A := ⟨_, rfl⟩
  obtain ⟨A5, hA5⟩ : ∃ A, max (btwV pe 0 1048576) (btwV pl 0 1048576) = A := ⟨_, rfl⟩
  obtain ⟨A6, hA6⟩ : ∃ A, min (btwV de 0 1048576) (btwV dl 0 1048576) = A := ⟨_, rfl⟩
  obtain ⟨A7, hA7⟩ : ∃ A, max (btwV de 0 1048576) (btwV dl 0 1048576) = A := ⟨_, rfl⟩
  have cF : ∀ w, Calls Try.prog 22 #[.agg #[.int .i64 fx, .int .i64 fy]] w fun r w' => r = .returned (.agg #[.int .i64 A0, .int .i64 A1]) ∧ Below w.heap.size w w' := fun w => by rw [← hA0, ← hA1]; exact lplace_any _ _ w
  have cT : ∀ w, Calls Try.prog 22 #[.agg #[.int .i64 tx, .int .i64 ty]] w fun r w' => r = .returned (.agg #[.int .i64 A2, .int .i64 A3]) ∧ Below w.heap.size w w' := fun w => by rw [← hA2, ← hA3]; exact lplace_any _ _ w
  have cL : ∀ w, Calls Try.prog 23 #[.int .i64 ld, .int .i64 1, .int .i64 1000] w fun r w' => r = .returned (.int .i64 A8) ∧ Below w.heap.size w w' := fun w => by rw [← hA8]; exact lbtw_1_1000 _ w
  have cS : ∀ w, Calls Try.prog 23 #[.int .i64 sv, .int .i64 0, .int .i64 1000] w fun r w' => r = .returned (.int .i64 A9) ∧ Below w.heap.size w w' := fun w => by rw [← hA9]; exact lbtw_0_1000 _ w
  have cP : ∀ w, Calls Try.prog 24 #[.agg #[.int .i64 pe, .int .i64 pl], .int .i64 1048576] w fun r w' => r = .returned (.agg #[.int .i64 A4, .int .i64 A5]) ∧ Below w.heap.size w w' := fun w => by rw [← hA4, ← hA5]; exact lwin_1048576 _ _ w
  have cD : ∀ w, Calls Try.prog 24 #[.agg #[.int .i64 de, .int .i64 dl], .int .i64 1048576] w fun r w' => r = .returned (.agg #[.int .i64 A6, .int .i64 A7]) ∧ Below w.heap.size w w' := fun w => by rw [← hA6, ← hA7]; exact lwin_1048576 _ _ w
  clear hA0 hA1 hA2 hA3 hA4 hA5 hA6 hA7 hA8 hA9
  refine ⟨A0, A1, A2, A3, A4, A5, A6, A7, A8, A9, fun w => ?_⟩
  have hP : At ((w.alloc (.cells #[.int .i64 fx, .int .i64 fy, .int .i64 tx, .int .i64 ty, .int .i64 pe, .int .i64 pl, .int .i64 de, .int .i64 dl, .int .i64 ld, .int .i64 sv] 27)).alloc (.cells #[.int .i64 0, .int .i64 0, .int .i64 0, .int .i64 0, .int .i64 0, .int .i64 0, .int .i64 0, .int .i64 0, .int .i64 0, .int .i64 0] 27)) w.heap.size 27 #[.int .i64 fx, .int .i64 fy, .int .i64 tx, .int .i64 ty, .int .i64 pe, .int .i64 pl, .int .i64 de, .int .i64 dl, .int .i64 ld, .int .i64 sv] := (At.new w _ _).alloc _
  have hS : At ((w.alloc (.cells #[.int .i64 fx, .int .i64 fy, .int .i64 tx, .int .i64 ty, .int .i64 pe, .int .i64 pl, .int .i64 de, .int .i64 dl, .int .i64 ld, .int .i64 sv] 27)).alloc (.cells #[.int .i64 0, .int .i64 0, .int .i64 0, .int .i64 0, .int .i64 0, .int .i64 0, .int .i64 0, .int .i64 0, .int .i64 0, .int .i64 0] 27)) (w.heap.size + 1) 27 #[.int .i64 0, .int .i64 0, .int .i64 0, .int .i64 0, .int .i64 0, .int .i64 0, .int .i64 0, .int .i64 0, .int .i64 0, .int .i64 0] := At.new_ _ _ _ (by simp)
  have hB : Below w.heap.size w ((w.alloc (.cells #[.int .i64 fx, .int .i64 fy, .int .i64 tx, .int .i64 ty, .int .i64 pe, .int .i64 pl, .int .i64 de, .int .i64 dl, .int .i64 ld, .int .i64 sv] 27)).alloc (.cells #[.int .i64 0, .int .i64 0, .int .i64 0, .int .i64 0, .int .i64 0, .int .i64 0, .int .i64 0, .int .i64 0, .int .i64 0, .int .i64 0] 27)) := ((Below.refl _ _).alloc (Nat.le_refl _) _).alloc (by simp) _
  go_enter Try.func8, Try.ntmps8
  go_wp2_with fail
  generalize ((w.alloc (.cells #[.int .i64 fx, .int .i64 fy, .int .i64 tx, .int .i64 ty, .int .i64 pe, .int .i64 pl, .int .i64 de, .int .i64 dl, .int .i64 ld, .int .i64 sv] 27)).alloc (.cells #[.int .i64 0, .int .i64 0, .int .i64 0, .int .i64 0, .int .i64 0, .int .i64 0, .int .i64 0, .int .i64 0, .int .i64 0, .int .i64 0] 27)) = w1 at *
  have hsp := hP.inside
  have hss := hS.inside
  refine wp_region_float1 13 6 (.cells #[.int .i64 0, .int .i64 0, .int .i64 0, .int .i64 0, .int .i64 0, .int .i64 0, .int .i64 0, .int .i64 0, .int .i64 0, .int .i64 0] 27) ?af (by kernel_rfl) (by kernel_rfl) (by kernel_rfl) ?hL ?hW ?hT
  case hL =>
    intro o ho a wz
    have ho' := (Option.some.inj ho).symm
    subst ho'
    simp only [ptr]
    go_simp
  case hW =>
    intro w0 hw0
    have hP0 := hP.keep hw0 hP.inside
    have c0 := hP0.cell 0
    have c1 := hP0.cell 1
    have c2 := hP0.cell 2
    have c3 := hP0.cell 3
    have c4 := hP0.cell 4
    have c5 := hP0.cell 5
    have c6 := hP0.cell 6
    have c7 := hP0.cell 7
    have c8 := hP0.cell 8
    have c9 := hP0.cell 9
    simp at c0 c1 c2 c3 c4 c5 c6 c7 c8 c9
    have kc0 := cell_regrown c0
    have kc1 := cell_regrown c1
    have kc2 := cell_regrown c2
    have kc3 := cell_regrown c3
    have kc4 := cell_regrown c4
    have kc5 := cell_regrown c5
    have kc6 := cell_regrown c6
    have kc7 := cell_regrown c7
    have kc8 := cell_regrown c8
    have kc9 := cell_regrown c9
    have kF := fun d os => Calls.regrown_of (cF (grow (redrawn w0 d) os))
    have kT := fun d os => Calls.regrown_of (cT (grow (redrawn w0 d) os))
    have kL := fun d os => Calls.regrown_of (cL (grow (redrawn w0 d) os))
    have kS := fun d os => Calls.regrown_of (cS (grow (redrawn w0 d) os))
    simp only [List.take_succ_cons, List.take_zero]
    repeat (go_big_quiet_step (first | with_reducible exact kF _ _ | with_reducible exact kT _ _ | with_reducible exact kL _ _ | with_reducible exact kS _ _))
    refine wpQuiet_nil ?_
    rfl
  case hT =>
    intro g w2 hg hob hb2
    replace hB := hB.trans (hb2.mono hB.size)
    replace hP := hP.keep hb2 hP.inside
    replace hS := hS.keep hb2 hS.inside
    have hN : At w2 g 27 #[.int .i64 0, .int .i64 0, .int .i64 0, .int .i64 0, .int .i64 0, .int .i64 0, .int .i64 0, .int .i64 0, .int .i64 0, .int .i64 0] := hob
    simp only [List.drop_succ_cons, List.drop_zero]
    have c0 := hP.cell 0
    have c1 := hP.cell 1
    have c2 := hP.cell 2
    have c3 := hP.cell 3
    have c4 := hP.cell 4
    have c5 := hP.cell 5
    have c6 := hP.cell 6
    have c7 := hP.cell 7
    have c8 := hP.cell 8
    have c9 := hP.cell 9
    simp at c0 c1 c2 c3 c4 c5 c6 c7 c8 c9
    have n0 := hN.cell 0
    have n1 := hN.cell 1
    have n2 := hN.cell 2
    have n3 := hN.cell 3
    have n4 := hN.cell 4
    have n5 := hN.cell 5
    have n6 := hN.cell 6
    have n7 := hN.cell 7
    have n8 := hN.cell 8
    have n9 := hN.cell 9
    simp at n0 n1 n2 n3 n4 n5 n6 n7 n8 n9
    have hf := hN.free
    go_wp2_with fail
    have hgP : w.heap.size ≠ g := by omega
    have hgS : w.heap.size + 1 ≠ g := by omega
    have hwg : w.heap.size ≤ g := by omega
    replace hN : At ((((((((((w2.setCell ⟨g, 0, none⟩ (.int .i64 (A0))).setCell ⟨g, 1, none⟩ (.int .i64 (A1))).setCell ⟨g, 2, none⟩ (.int .i64 (A2))).setCell ⟨g, 3, none⟩ (.int .i64 (A3))).setCell ⟨g, 4, none⟩ (.int .i64 (0))).setCell ⟨g, 5, none⟩ (.int .i64 (0))).setCell ⟨g, 6, none⟩ (.int .i64 (0))).setCell ⟨g, 7, none⟩ (.int .i64 (0))).setCell ⟨g, 8, none⟩ (.int .i64 (A8))).setCell ⟨g, 9, none⟩ (.int .i64 (A9))) g 27 #[.int .i64 (A0), .int .i64 (A1), .int .i64 (A2), .int .i64 (A3), .int .i64 (0), .int .i64 (0), .int .i64 (0), .int .i64 (0), .int .i64 (A8), .int .i64 (A9)] := by simpa using ((((((((((hN.put 0 (.int .i64 (A0))).put 1 (.int .i64 (A1))).put 2 (.int .i64 (A2))).put 3 (.int .i64 (A3))).put 4 (.int .i64 (0))).put 5 (.int .i64 (0))).put 6 (.int .i64 (0))).put 7 (.int .i64 (0))).put 8 (.int .i64 (A8))).put 9 (.int .i64 (A9)))
    replace hP : At ((((((((((w2.setCell ⟨g, 0, none⟩ (.int .i64 (A0))).setCell ⟨g, 1, none⟩ (.int .i64 (A1))).setCell ⟨g, 2, none⟩ (.int .i64 (A2))).setCell ⟨g, 3, none⟩ (.int .i64 (A3))).setCell ⟨g, 4, none⟩ (.int .i64 (0))).setCell ⟨g, 5, none⟩ (.int .i64 (0))).setCell ⟨g, 6, none⟩ (.int .i64 (0))).setCell ⟨g, 7, none⟩ (.int .i64 (0))).setCell ⟨g, 8, none⟩ (.int .i64 (A8))).setCell ⟨g, 9, none⟩ (.int .i64 (A9))) w.heap.size 27 #[.int .i64 fx, .int .i64 fy, .int .i64 tx, .int .i64 ty, .int .i64 pe, .int .i64 pl, .int .i64 de, .int .i64 dl, .int .i64 ld, .int .i64 sv] := ((((((((((hP.far (by omega) 0 (.int .i64 (A0))).far (by omega) 1 (.int .i64 (A1))).far (by omega) 2 (.int .i64 (A2))).far (by omega) 3 (.int .i64 (A3))).far (by omega) 4 (.int .i64 (0))).far (by omega) 5 (.int .i64 (0))).far (by omega) 6 (.int .i64 (0))).far (by omega) 7 (.int .i64 (0))).far (by omega) 8 (.int .i64 (A8))).far (by omega) 9 (.int .i64 (A9)))
    replace hS : At ((((((((((w2.setCell ⟨g, 0, none⟩ (.int .i64 (A0))).setCell ⟨g, 1, none⟩ (.int .i64 (A1))).setCell ⟨g, 2, none⟩ (.int .i64 (A2))).setCell ⟨g, 3, none⟩ (.int .i64 (A3))).setCell ⟨g, 4, none⟩ (.int .i64 (0))).setCell ⟨g, 5, none⟩ (.int .i64 (0))).setCell ⟨g, 6, none⟩ (.int .i64 (0))).setCell ⟨g, 7, none⟩ (.int .i64 (0))).setCell ⟨g, 8, none⟩ (.int .i64 (A8))).setCell ⟨g, 9, none⟩ (.int .i64 (A9))) (w.heap.size + 1) 27 #[.int .i64 0, .int .i64 0, .int .i64 0, .int .i64 0, .int .i64 0, .int .i64 0, .int .i64 0, .int .i64 0, .int .i64 0, .int .i64 0] := ((((((((((hS.far (by omega) 0 (.int .i64 (A0))).far (by omega) 1 (.int .i64 (A1))).far (by omega) 2 (.int .i64 (A2))).far (by omega) 3 (.int .i64 (A3))).far (by omega) 4 (.int .i64 (0))).far (by omega) 5 (.int .i64 (0))).far (by omega) 6 (.int .i64 (0))).far (by omega) 7 (.int .i64 (0))).far (by omega) 8 (.int .i64 (A8))).far (by omega) 9 (.int .i64 (A9)))
    replace hB : Below w.heap.size w ((((((((((w2.setCell ⟨g, 0, none⟩ (.int .i64 (A0))).setCell ⟨g, 1, none⟩ (.int .i64 (A1))).setCell ⟨g, 2, none⟩ (.int .i64 (A2))).setCell ⟨g, 3, none⟩ (.int .i64 (A3))).setCell ⟨g, 4, none⟩ (.int .i64 (0))).setCell ⟨g, 5, none⟩ (.int .i64 (0))).setCell ⟨g, 6, none⟩ (.int .i64 (0))).setCell ⟨g, 7, none⟩ (.int .i64 (0))).setCell ⟨g, 8, none⟩ (.int .i64 (A8))).setCell ⟨g, 9, none⟩ (.int .i64 (A9))) := (Below.setCell (Below.setCell (Below.setCell (Below.setCell (Below.setCell (Below.setCell (Below.setCell (Below.setCell (Below.setCell (Below.setCell hB hwg (.int .i64 (A0))) hwg (.int .i64 (A1))) hwg (.int .i64 (A2))) hwg (.int .i64 (A3))) hwg (.int .i64 (0))) hwg (.int .i64 (0))) hwg (.int .i64 (0))) hwg (.int .i64 (0))) hwg (.int .i64 (A8))) hwg (.int .i64 (A9)))
    generalize ((((((((((w2.setCell ⟨g, 0, none⟩ (.int .i64 (A0))).setCell ⟨g, 1, none⟩ (.int .i64 (A1))).setCell ⟨g, 2, none⟩ (.int .i64 (A2))).setCell ⟨g, 3, none⟩ (.int .i64 (A3))).setCell ⟨g, 4, none⟩ (.int .i64 (0))).setCell ⟨g, 5, none⟩ (.int .i64 (0))).setCell ⟨g, 6, none⟩ (.int .i64 (0))).setCell ⟨g, 7, none⟩ (.int .i64 (0))).setCell ⟨g, 8, none⟩ (.int .i64 (A8))).setCell ⟨g, 9, none⟩ (.int .i64 (A9))) = w3 at *
    clear c0 c1 c2 c3 c4 c5 c6 c7 c8 c9 n0 n1 n2 n3 n4 n5 n6 n7 n8 n9 hf hob hb2
    have c0 := hP.cell 0
    have c1 := hP.cell 1
    have c2 := hP.cell 2
    have c3 := hP.cell 3
    have c4 := hP.cell 4
    have c5 := hP.cell 5
    have c6 := hP.cell 6
    have c7 := hP.cell 7
    have c8 := hP.cell 8
    have c9 := hP.cell 9
    simp at c0 c1 c2 c3 c4 c5 c6 c7 c8 c9
    have kc0 := cell_regrown c0
    have kc1 := cell_regrown c1
    have kc2 := cell_regrown c2
    have kc3 := cell_regrown c3
    have kc4 := cell_regrown c4
    have kc5 := cell_regrown c5
    have kc6 := cell_regrown c6
    have kc7 := cell_regrown c7
    have kc8 := cell_regrown c8
    have kc9 := cell_regrown c9
    have kP := fun d os => Calls.regrown_of (cP (grow (redrawn w3 d) os))
    have kD := fun d os => Calls.regrown_of (cD (grow (redrawn w3 d) os))
    refine wp_region_below_tail 9 (by kernel_rfl) (by kernel_rfl) (by kernel_rfl) ?_
    simp only [List.take_succ_cons, List.take_zero, List.drop_succ_cons, List.drop_zero]
    repeat (go_big_quiet_step (first | with_reducible exact kP _ _ | with_reducible exact kD _ _))
    refine wpQuiet_nil ?_
    intro _ hw'
    obtain ⟨⟨dq, osq⟩, hw''⟩ := hw'
    subst hw''
    replace hB := hB.trans ((below_regrown w3 dq osq).mono hB.size)
    replace hS := hS.keep (below_regrown w3 dq osq) hS.inside
    replace hN := hN.keep (below_regrown w3 dq osq) hN.inside
    generalize grow (redrawn w3 dq) osq = w4 at *
    clear kP kD kc0 kc1 kc2 kc3 kc4 kc5 kc6 kc7 kc8 kc9 c0 c1 c2 c3 c4 c5 c6 c7 c8 c9 hP
    have n0 := hN.cell 0
    have n1 := hN.cell 1
    have n2 := hN.cell 2
    have n3 := hN.cell 3
    have n4 := hN.cell 4
    have n5 := hN.cell 5
    have n6 := hN.cell 6
    have n7 := hN.cell 7
    have n8 := hN.cell 8
    have n9 := hN.cell 9
    simp at n0 n1 n2 n3 n4 n5 n6 n7 n8 n9
    have s0 := hS.cell 0
    have s1 := hS.cell 1
    have s2 := hS.cell 2
    have s3 := hS.cell 3
    have s4 := hS.cell 4
    have s5 := hS.cell 5
    have s6 := hS.cell 6
    have s7 := hS.cell 7
    have s8 := hS.cell 8
    have s9 := hS.cell 9
    simp at s0 s1 s2 s3 s4 s5 s6 s7 s8 s9
    have hf := hN.free
    have hf2 := hS.free
    go_wp2
    refine bodyPost_ret (res_rq rfl rfl (x0 := .int .i64 (A0)) (x1 := .int .i64 (A1)) (x2 := .int .i64 (A2)) (x3 := .int .i64 (A3)) (x4 := .int .i64 (A4)) (x5 := .int .i64 (A5)) (x6 := .int .i64 (A6)) (x7 := .int .i64 (A7)) (x8 := .int .i64 (A8)) (x9 := .int .i64 (A9)) (by exact put10 ((((hS.far hgS 4 _).far hgS 5 _).far hgS 6 _).far hgS 7 _))) rfl ?_
    exact ⟨rfl, by repeat (first | with_reducible refine Below.setCell ?_ (by first | exact hwg | (simp; omega) | simp) _ | with_reducible exact hB)⟩

set_option maxHeartbeats 8000000 in
theorem right_t (fx fy tx ty pe pl de dl ld sv : Int) : ∃ fx2 fy2 tx2 ty2 pe2 pl2 de2 dl2 ld2 sv2 : Int, ∀ w, Calls Try.prog 8 #[.agg #[.int .i64 fx, .int .i64 fy, .int .i64 tx, .int .i64 ty, .int .i64 pe, .int .i64 pl, .int .i64 de, .int .i64 dl, .int .i64 ld, .int .i64 sv], .bool true] w fun r w' => r = .returned (.agg #[.int .i64 fx2, .int .i64 fy2, .int .i64 tx2, .int .i64 ty2, .int .i64 pe2, .int .i64 pl2, .int .i64 de2, .int .i64 dl2, .int .i64 ld2, .int .i64 sv2]) ∧ Below w.heap.size w w' := by
  obtain ⟨A0, hA0, hA0'⟩ : ∃ A, btwV fx 0 1023 = A ∧ 0 ≤ A ∧ A ≤ 1023 := ⟨_, rfl, btwV_bd _ _ _ (by omega)⟩
  obtain ⟨A1, hA1, hA1'⟩ : ∃ A, btwV fy 0 1023 = A ∧ 0 ≤ A ∧ A ≤ 1023 := ⟨_, rfl, btwV_bd _ _ _ (by omega)⟩
  obtain ⟨A2, hA2, hA2'⟩ : ∃ A, btwV tx 0 1023 = A ∧ 0 ≤ A ∧ A ≤ 1023 := ⟨_, rfl, btwV_bd _ _ _ (by omega)⟩
  obtain ⟨A3, hA3, hA3'⟩ : ∃ A, btwV ty 0 1023 = A ∧ 0 ≤ A ∧ A ≤ 1023 := ⟨_, rfl, btwV_bd _ _ _ (by omega)⟩
  obtain ⟨A8, hA8, hA8'⟩ : ∃ A, btwV ld 1 1000 = A ∧ 1 ≤ A ∧ A ≤ 1000 := ⟨_, rfl, btwV_bd _ _ _ (by omega)⟩
  obtain ⟨A9, hA9, hA9'⟩ : ∃ A, btwV sv 0 1000 = A ∧ 0 ≤ A ∧ A ≤ 1000 := ⟨_, rfl, btwV_bd _ _ _ (by omega)⟩
  obtain ⟨A4, hA4⟩ : ∃ A, min (btwV pe 0 300) (btwV pl 0 300) = A := ⟨_, rfl⟩
  obtain ⟨A5, hA5⟩ : ∃ A, max (btwV pe 0 300) (btwV pl 0 300) = A := ⟨_, rfl⟩
  obtain ⟨A6, hA6⟩ : ∃ A, min (btwV de 0 300) (btwV dl 0 300) = A := ⟨_, rfl⟩
  obtain ⟨A7, hA7⟩ : ∃ A, max (btwV de 0 300) (btwV dl 0 300) = A := ⟨_, rfl⟩
  have cF : ∀ w, Calls Try.prog 22 #[.agg #[.int .i64 fx, .int .i64 fy]] w fun r w' => r = .returned (.agg #[.int .i64 A0, .int .i64 A1]) ∧ Below w.heap.size w w' := fun w => by rw [← hA0, ← hA1]; exact lplace_any _ _ w
  have cT : ∀ w, Calls Try.prog 22 #[.agg #[.int .i64 tx, .int .i64 ty]] w fun r w' => r = .returned (.agg #[.int .i64 A2, .int .i64 A3]) ∧ Below w.heap.size w w' := fun w => by rw [← hA2, ← hA3]; exact lplace_any _ _ w
  have cL : ∀ w, Calls Try.prog 23 #[.int .i64 ld, .int .i64 1, .int .i64 1000] w fun r w' => r = .returned (.int .i64 A8) ∧ Below w.heap.size w w' := fun w => by rw [← hA8]; exact lbtw_1_1000 _ w
  have cS : ∀ w, Calls Try.prog 23 #[.int .i64 sv, .int .i64 0, .int .i64 1000] w fun r w' => r = .returned (.int .i64 A9) ∧ Below w.heap.size w w' := fun w => by rw [← hA9]; exact lbtw_0_1000 _ w
  have cP : ∀ w, Calls Try.prog 24 #[.agg #[.int .i64 pe, .int .i64 pl], .int .i64 300] w fun r w' => r = .returned (.agg #[.int .i64 A4, .int .i64 A5]) ∧ Below w.heap.size w w' := fun w => by rw [← hA4, ← hA5]; exact lwin_300 _ _ w
  have cD : ∀ w, Calls Try.prog 24 #[.agg #[.int .i64 de, .int .i64 dl], .int .i64 300] w fun r w' => r = .returned (.agg #[.int .i64 A6, .int .i64 A7]) ∧ Below w.heap.size w w' := fun w => by rw [← hA6, ← hA7]; exact lwin_300 _ _ w
  clear hA0 hA1 hA2 hA3 hA4 hA5 hA6 hA7 hA8 hA9
  refine ⟨A0 % 30, A1 % 30, A2 % 30, A3 % 30, A4, A5, A6, A7, 1 + A8 % 20, A9 % 9, fun w => ?_⟩
  have hP : At ((w.alloc (.cells #[.int .i64 fx, .int .i64 fy, .int .i64 tx, .int .i64 ty, .int .i64 pe, .int .i64 pl, .int .i64 de, .int .i64 dl, .int .i64 ld, .int .i64 sv] 27)).alloc (.cells #[.int .i64 0, .int .i64 0, .int .i64 0, .int .i64 0, .int .i64 0, .int .i64 0, .int .i64 0, .int .i64 0, .int .i64 0, .int .i64 0] 27)) w.heap.size 27 #[.int .i64 fx, .int .i64 fy, .int .i64 tx, .int .i64 ty, .int .i64 pe, .int .i64 pl, .int .i64 de, .int .i64 dl, .int .i64 ld, .int .i64 sv] := (At.new w _ _).alloc _
  have hS : At ((w.alloc (.cells #[.int .i64 fx, .int .i64 fy, .int .i64 tx, .int .i64 ty, .int .i64 pe, .int .i64 pl, .int .i64 de, .int .i64 dl, .int .i64 ld, .int .i64 sv] 27)).alloc (.cells #[.int .i64 0, .int .i64 0, .int .i64 0, .int .i64 0, .int .i64 0, .int .i64 0, .int .i64 0, .int .i64 0, .int .i64 0, .int .i64 0] 27)) (w.heap.size + 1) 27 #[.int .i64 0, .int .i64 0, .int .i64 0, .int .i64 0, .int .i64 0, .int .i64 0, .int .i64 0, .int .i64 0, .int .i64 0, .int .i64 0] := At.new_ _ _ _ (by simp)
  have hB : Below w.heap.size w ((w.alloc (.cells #[.int .i64 fx, .int .i64 fy, .int .i64 tx, .int .i64 ty, .int .i64 pe, .int .i64 pl, .int .i64 de, .int .i64 dl, .int .i64 ld, .int .i64 sv] 27)).alloc (.cells #[.int .i64 0, .int .i64 0, .int .i64 0, .int .i64 0, .int .i64 0, .int .i64 0, .int .i64 0, .int .i64 0, .int .i64 0, .int .i64 0] 27)) := ((Below.refl _ _).alloc (Nat.le_refl _) _).alloc (by simp) _
  go_enter Try.func8, Try.ntmps8
  go_wp2_with fail
  generalize ((w.alloc (.cells #[.int .i64 fx, .int .i64 fy, .int .i64 tx, .int .i64 ty, .int .i64 pe, .int .i64 pl, .int .i64 de, .int .i64 dl, .int .i64 ld, .int .i64 sv] 27)).alloc (.cells #[.int .i64 0, .int .i64 0, .int .i64 0, .int .i64 0, .int .i64 0, .int .i64 0, .int .i64 0, .int .i64 0, .int .i64 0, .int .i64 0] 27)) = w1 at *
  have hsp := hP.inside
  have hss := hS.inside
  refine wp_region_float1 13 6 (.cells #[.int .i64 0, .int .i64 0, .int .i64 0, .int .i64 0, .int .i64 0, .int .i64 0, .int .i64 0, .int .i64 0, .int .i64 0, .int .i64 0] 27) ?af (by kernel_rfl) (by kernel_rfl) (by kernel_rfl) ?hL ?hW ?hT
  case hL =>
    intro o ho a wz
    have ho' := (Option.some.inj ho).symm
    subst ho'
    simp only [ptr]
    go_simp
  case hW =>
    intro w0 hw0
    have hP0 := hP.keep hw0 hP.inside
    have c0 := hP0.cell 0
    have c1 := hP0.cell 1
    have c2 := hP0.cell 2
    have c3 := hP0.cell 3
    have c4 := hP0.cell 4
    have c5 := hP0.cell 5
    have c6 := hP0.cell 6
    have c7 := hP0.cell 7
    have c8 := hP0.cell 8
    have c9 := hP0.cell 9
    simp at c0 c1 c2 c3 c4 c5 c6 c7 c8 c9
    have kc0 := cell_regrown c0
    have kc1 := cell_regrown c1
    have kc2 := cell_regrown c2
    have kc3 := cell_regrown c3
    have kc4 := cell_regrown c4
    have kc5 := cell_regrown c5
    have kc6 := cell_regrown c6
    have kc7 := cell_regrown c7
    have kc8 := cell_regrown c8
    have kc9 := cell_regrown c9
    have kF := fun d os => Calls.regrown_of (cF (grow (redrawn w0 d) os))
    have kT := fun d os => Calls.regrown_of (cT (grow (redrawn w0 d) os))
    have kL := fun d os => Calls.regrown_of (cL (grow (redrawn w0 d) os))
    have kS := fun d os => Calls.regrown_of (cS (grow (redrawn w0 d) os))
    simp only [List.take_succ_cons, List.take_zero]
    repeat (go_big_quiet_step (first | with_reducible exact kF _ _ | with_reducible exact kT _ _ | with_reducible exact kL _ _ | with_reducible exact kS _ _))
    refine wpQuiet_nil ?_
    rfl
  case hT =>
    intro g w2 hg hob hb2
    replace hB := hB.trans (hb2.mono hB.size)
    replace hP := hP.keep hb2 hP.inside
    replace hS := hS.keep hb2 hS.inside
    have hN : At w2 g 27 #[.int .i64 0, .int .i64 0, .int .i64 0, .int .i64 0, .int .i64 0, .int .i64 0, .int .i64 0, .int .i64 0, .int .i64 0, .int .i64 0] := hob
    simp only [List.drop_succ_cons, List.drop_zero]
    have c0 := hP.cell 0
    have c1 := hP.cell 1
    have c2 := hP.cell 2
    have c3 := hP.cell 3
    have c4 := hP.cell 4
    have c5 := hP.cell 5
    have c6 := hP.cell 6
    have c7 := hP.cell 7
    have c8 := hP.cell 8
    have c9 := hP.cell 9
    simp at c0 c1 c2 c3 c4 c5 c6 c7 c8 c9
    have n0 := hN.cell 0
    have n1 := hN.cell 1
    have n2 := hN.cell 2
    have n3 := hN.cell 3
    have n4 := hN.cell 4
    have n5 := hN.cell 5
    have n6 := hN.cell 6
    have n7 := hN.cell 7
    have n8 := hN.cell 8
    have n9 := hN.cell 9
    simp at n0 n1 n2 n3 n4 n5 n6 n7 n8 n9
    have hf := hN.free
    go_wp2_with fail
    have hgP : w.heap.size ≠ g := by omega
    have hgS : w.heap.size + 1 ≠ g := by omega
    have hwg : w.heap.size ≤ g := by omega
    replace hN : At ((((((((((((((((w2.setCell ⟨g, 0, none⟩ (.int .i64 (A0))).setCell ⟨g, 1, none⟩ (.int .i64 (A1))).setCell ⟨g, 2, none⟩ (.int .i64 (A2))).setCell ⟨g, 3, none⟩ (.int .i64 (A3))).setCell ⟨g, 4, none⟩ (.int .i64 (0))).setCell ⟨g, 5, none⟩ (.int .i64 (0))).setCell ⟨g, 6, none⟩ (.int .i64 (0))).setCell ⟨g, 7, none⟩ (.int .i64 (0))).setCell ⟨g, 8, none⟩ (.int .i64 (A8))).setCell ⟨g, 9, none⟩ (.int .i64 (A9))).setCell ⟨g, 0, none⟩ (.int .i64 (A0 % 30))).setCell ⟨g, 1, none⟩ (.int .i64 (A1 % 30))).setCell ⟨g, 2, none⟩ (.int .i64 (A2 % 30))).setCell ⟨g, 3, none⟩ (.int .i64 (A3 % 30))).setCell ⟨g, 9, none⟩ (.int .i64 (A9 % 9))).setCell ⟨g, 8, none⟩ (.int .i64 (1 + A8 % 20))) g 27 #[.int .i64 (A0 % 30), .int .i64 (A1 % 30), .int .i64 (A2 % 30), .int .i64 (A3 % 30), .int .i64 (0), .int .i64 (0), .int .i64 (0), .int .i64 (0), .int .i64 (1 + A8 % 20), .int .i64 (A9 % 9)] := by simpa using ((((((((((((((((hN.put 0 (.int .i64 (A0))).put 1 (.int .i64 (A1))).put 2 (.int .i64 (A2))).put 3 (.int .i64 (A3))).put 4 (.int .i64 (0))).put 5 (.int .i64 (0))).put 6 (.int .i64 (0))).put 7 (.int .i64 (0))).put 8 (.int .i64 (A8))).put 9 (.int .i64 (A9))).put 0 (.int .i64 (A0 % 30))).put 1 (.int .i64 (A1 % 30))).put 2 (.int .i64 (A2 % 30))).put 3 (.int .i64 (A3 % 30))).put 9 (.int .i64 (A9 % 9))).put 8 (.int .i64 (1 + A8 % 20)))
    replace hP : At ((((((((((((((((w2.setCell ⟨g, 0, none⟩ (.int .i64 (A0))).setCell ⟨g, 1, none⟩ (.int .i64 (A1))).setCell ⟨g, 2, none⟩ (.int .i64 (A2))).setCell ⟨g, 3, none⟩ (.int .i64 (A3))).setCell ⟨g, 4, none⟩ (.int .i64 (0))).setCell ⟨g, 5, none⟩ (.int .i64 (0))).setCell ⟨g, 6, none⟩ (.int .i64 (0))).setCell ⟨g, 7, none⟩ (.int .i64 (0))).setCell ⟨g, 8, none⟩ (.int .i64 (A8))).setCell ⟨g, 9, none⟩ (.int .i64 (A9))).setCell ⟨g, 0, none⟩ (.int .i64 (A0 % 30))).setCell ⟨g, 1, none⟩ (.int .i64 (A1 % 30))).setCell ⟨g, 2, none⟩ (.int .i64 (A2 % 30))).setCell ⟨g, 3, none⟩ (.int .i64 (A3 % 30))).setCell ⟨g, 9, none⟩ (.int .i64 (A9 % 9))).setCell ⟨g, 8, none⟩ (.int .i64 (1 + A8 % 20))) w.heap.size 27 #[.int .i64 fx, .int .i64 fy, .int .i64 tx, .int .i64 ty, .int .i64 pe, .int .i64 pl, .int .i64 de, .int .i64 dl, .int .i64 ld, .int .i64 sv] := ((((((((((((((((hP.far (by omega) 0 (.int .i64 (A0))).far (by omega) 1 (.int .i64 (A1))).far (by omega) 2 (.int .i64 (A2))).far (by omega) 3 (.int .i64 (A3))).far (by omega) 4 (.int .i64 (0))).far (by omega) 5 (.int .i64 (0))).far (by omega) 6 (.int .i64 (0))).far (by omega) 7 (.int .i64 (0))).far (by omega) 8 (.int .i64 (A8))).far (by omega) 9 (.int .i64 (A9))).far (by omega) 0 (.int .i64 (A0 % 30))).far (by omega) 1 (.int .i64 (A1 % 30))).far (by omega) 2 (.int .i64 (A2 % 30))).far (by omega) 3 (.int .i64 (A3 % 30))).far (by omega) 9 (.int .i64 (A9 % 9))).far (by omega) 8 (.int .i64 (1 + A8 % 20)))
    replace hS : At ((((((((((((((((w2.setCell ⟨g, 0, none⟩ (.int .i64 (A0))).setCell ⟨g, 1, none⟩ (.int .i64 (A1))).setCell ⟨g, 2, none⟩ (.int .i64 (A2))).setCell ⟨g, 3, none⟩ (.int .i64 (A3))).setCell ⟨g, 4, none⟩ (.int .i64 (0))).setCell ⟨g, 5, none⟩ (.int .i64 (0))).setCell ⟨g, 6, none⟩ (.int .i64 (0))).setCell ⟨g, 7, none⟩ (.int .i64 (0))).setCell ⟨g, 8, none⟩ (.int .i64 (A8))).setCell ⟨g, 9, none⟩ (.int .i64 (A9))).setCell ⟨g, 0, none⟩ (.int .i64 (A0 % 30))).setCell ⟨g, 1, none⟩ (.int .i64 (A1 % 30))).setCell ⟨g, 2, none⟩ (.int .i64 (A2 % 30))).setCell ⟨g, 3, none⟩ (.int .i64 (A3 % 30))).setCell ⟨g, 9, none⟩ (.int .i64 (A9 % 9))).setCell ⟨g, 8, none⟩ (.int .i64 (1 + A8 % 20))) (w.heap.size + 1) 27 #[.int .i64 0, .int .i64 0, .int .i64 0, .int .i64 0, .int .i64 0, .int .i64 0, .int .i64 0, .int .i64 0, .int .i64 0, .int .i64 0] := ((((((((((((((((hS.far (by omega) 0 (.int .i64 (A0))).far (by omega) 1 (.int .i64 (A1))).far (by omega) 2 (.int .i64 (A2))).far (by omega) 3 (.int .i64 (A3))).far (by omega) 4 (.int .i64 (0))).far (by omega) 5 (.int .i64 (0))).far (by omega) 6 (.int .i64 (0))).far (by omega) 7 (.int .i64 (0))).far (by omega) 8 (.int .i64 (A8))).far (by omega) 9 (.int .i64 (A9))).far (by omega) 0 (.int .i64 (A0 % 30))).far (by omega) 1 (.int .i64 (A1 % 30))).far (by omega) 2 (.int .i64 (A2 % 30))).far (by omega) 3 (.int .i64 (A3 % 30))).far (by omega) 9 (.int .i64 (A9 % 9))).far (by omega) 8 (.int .i64 (1 + A8 % 20)))
    replace hB : Below w.heap.size w ((((((((((((((((w2.setCell ⟨g, 0, none⟩ (.int .i64 (A0))).setCell ⟨g, 1, none⟩ (.int .i64 (A1))).setCell ⟨g, 2, none⟩ (.int .i64 (A2))).setCell ⟨g, 3, none⟩ (.int .i64 (A3))).setCell ⟨g, 4, none⟩ (.int .i64 (0))).setCell ⟨g, 5, none⟩ (.int .i64 (0))).setCell ⟨g, 6, none⟩ (.int .i64 (0))).setCell ⟨g, 7, none⟩ (.int .i64 (0))).setCell ⟨g, 8, none⟩ (.int .i64 (A8))).setCell ⟨g, 9, none⟩ (.int .i64 (A9))).setCell ⟨g, 0, none⟩ (.int .i64 (A0 % 30))).setCell ⟨g, 1, none⟩ (.int .i64 (A1 % 30))).setCell ⟨g, 2, none⟩ (.int .i64 (A2 % 30))).setCell ⟨g, 3, none⟩ (.int .i64 (A3 % 30))).setCell ⟨g, 9, none⟩ (.int .i64 (A9 % 9))).setCell ⟨g, 8, none⟩ (.int .i64 (1 + A8 % 20))) := (Below.setCell (Below.setCell (Below.setCell (Below.setCell (Below.setCell (Below.setCell (Below.setCell (Below.setCell (Below.setCell (Below.setCell (Below.setCell (Below.setCell (Below.setCell (Below.setCell (Below.setCell (Below.setCell hB hwg (.int .i64 (A0))) hwg (.int .i64 (A1))) hwg (.int .i64 (A2))) hwg (.int .i64 (A3))) hwg (.int .i64 (0))) hwg (.int .i64 (0))) hwg (.int .i64 (0))) hwg (.int .i64 (0))) hwg (.int .i64 (A8))) hwg (.int .i64 (A9))) hwg (.int .i64 (A0 % 30))) hwg (.int .i64 (A1 % 30))) hwg (.int .i64 (A2 % 30))) hwg (.int .i64 (A3 % 30))) hwg (.int .i64 (A9 % 9))) hwg (.int .i64 (1 + A8 % 20)))
    generalize ((((((((((((((((w2.setCell ⟨g, 0, none⟩ (.int .i64 (A0))).setCell ⟨g, 1, none⟩ (.int .i64 (A1))).setCell ⟨g, 2, none⟩ (.int .i64 (A2))).setCell ⟨g, 3, none⟩ (.int .i64 (A3))).setCell ⟨g, 4, none⟩ (.int .i64 (0))).setCell ⟨g, 5, none⟩ (.int .i64 (0))).setCell ⟨g, 6, none⟩ (.int .i64 (0))).setCell ⟨g, 7, none⟩ (.int .i64 (0))).setCell ⟨g, 8, none⟩ (.int .i64 (A8))).setCell ⟨g, 9, none⟩ (.int .i64 (A9))).setCell ⟨g, 0, none⟩ (.int .i64 (A0 % 30))).setCell ⟨g, 1, none⟩ (.int .i64 (A1 % 30))).setCell ⟨g, 2, none⟩ (.int .i64 (A2 % 30))).setCell ⟨g, 3, none⟩ (.int .i64 (A3 % 30))).setCell ⟨g, 9, none⟩ (.int .i64 (A9 % 9))).setCell ⟨g, 8, none⟩ (.int .i64 (1 + A8 % 20))) = w3 at *
    clear c0 c1 c2 c3 c4 c5 c6 c7 c8 c9 n0 n1 n2 n3 n4 n5 n6 n7 n8 n9 hf hob hb2
    have c0 := hP.cell 0
    have c1 := hP.cell 1
    have c2 := hP.cell 2
    have c3 := hP.cell 3
    have c4 := hP.cell 4
    have c5 := hP.cell 5
    have c6 := hP.cell 6
    have c7 := hP.cell 7
    have c8 := hP.cell 8
    have c9 := hP.cell 9
    simp at c0 c1 c2 c3 c4 c5 c6 c7 c8 c9
    have kc0 := cell_regrown c0
    have kc1 := cell_regrown c1
    have kc2 := cell_regrown c2
    have kc3 := cell_regrown c3
    have kc4 := cell_regrown c4
    have kc5 := cell_regrown c5
    have kc6 := cell_regrown c6
    have kc7 := cell_regrown c7
    have kc8 := cell_regrown c8
    have kc9 := cell_regrown c9
    have kP := fun d os => Calls.regrown_of (cP (grow (redrawn w3 d) os))
    have kD := fun d os => Calls.regrown_of (cD (grow (redrawn w3 d) os))
    refine wp_region_below_tail 9 (by kernel_rfl) (by kernel_rfl) (by kernel_rfl) ?_
    simp only [List.take_succ_cons, List.take_zero, List.drop_succ_cons, List.drop_zero]
    repeat (go_big_quiet_step (first | with_reducible exact kP _ _ | with_reducible exact kD _ _))
    refine wpQuiet_nil ?_
    intro _ hw'
    obtain ⟨⟨dq, osq⟩, hw''⟩ := hw'
    subst hw''
    replace hB := hB.trans ((below_regrown w3 dq osq).mono hB.size)
    replace hS := hS.keep (below_regrown w3 dq osq) hS.inside
    replace hN := hN.keep (below_regrown w3 dq osq) hN.inside
    generalize grow (redrawn w3 dq) osq = w4 at *
    clear kP kD kc0 kc1 kc2 kc3 kc4 kc5 kc6 kc7 kc8 kc9 c0 c1 c2 c3 c4 c5 c6 c7 c8 c9 hP
    have n0 := hN.cell 0
    have n1 := hN.cell 1
    have n2 := hN.cell 2
    have n3 := hN.cell 3
    have n4 := hN.cell 4
    have n5 := hN.cell 5
    have n6 := hN.cell 6
    have n7 := hN.cell 7
    have n8 := hN.cell 8
    have n9 := hN.cell 9
    simp at n0 n1 n2 n3 n4 n5 n6 n7 n8 n9
    have s0 := hS.cell 0
    have s1 := hS.cell 1
    have s2 := hS.cell 2
    have s3 := hS.cell 3
    have s4 := hS.cell 4
    have s5 := hS.cell 5
    have s6 := hS.cell 6
    have s7 := hS.cell 7
    have s8 := hS.cell 8
    have s9 := hS.cell 9
    simp at s0 s1 s2 s3 s4 s5 s6 s7 s8 s9
    have hf := hN.free
    have hf2 := hS.free
    go_wp2
    refine bodyPost_ret (res_rq rfl rfl (x0 := .int .i64 (A0 % 30)) (x1 := .int .i64 (A1 % 30)) (x2 := .int .i64 (A2 % 30)) (x3 := .int .i64 (A3 % 30)) (x4 := .int .i64 (A4)) (x5 := .int .i64 (A5)) (x6 := .int .i64 (A6)) (x7 := .int .i64 (A7)) (x8 := .int .i64 (1 + A8 % 20)) (x9 := .int .i64 (A9 % 9)) (by exact put10 ((((hS.far hgS 4 _).far hgS 5 _).far hgS 6 _).far hgS 7 _))) rfl ?_
    exact ⟨rfl, by repeat (first | with_reducible refine Below.setCell ?_ (by first | exact hwg | (simp; omega) | simp) _ | with_reducible exact hB)⟩

end Go.Proofs.Ytcdgfjfomiokmaa.Order
