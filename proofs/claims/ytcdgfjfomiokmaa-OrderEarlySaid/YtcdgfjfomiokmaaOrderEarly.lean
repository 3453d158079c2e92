/-
  For all requests, vehicles and numbers: who starts earlier, or has more room, or more time, serves what the other one serves, and is home no later; nobody is home sooner than the way takes. Conditions: none but that the arguments are such values.
-/
import Derived.Test.YtcdgfjfomiokmaaOrderWorks
import Derived.Test.YtcdgfjfomiokmaaOrderOpen
import Derived.Test.YtcdgfjfomiokmaaWindowOpen
namespace Go.Proofs.Ytcdgfjfomiokmaa.orderEarly
open Go.ChangeShapes Go.WideShapes Go.ChangeAt Go.RowKit Go.Sort
open Go.Proofs.Ytcdgfjfomiokmaa.Mem Go.Proofs.Ytcdgfjfomiokmaa.Order Go.Proofs.Ytcdgfjfomiokmaa.Tail Go.Proofs.Ytcdgfjfomiokmaa.Window Go.Proofs.Ytcdgfjfomiokmaa.Place
set_option linter.unusedVariables false

set_option maxHeartbeats 4000000 in
theorem walk (fx fy tx ty pe pl de dl ld sv hx hy cp st en m0 m1 m2 : Int) (hm0 : 0 ≤ m0 ∧ m0 ≤ 255) (hm1 : 0 ≤ m1 ∧ m1 ≤ 255) (hm2 : 0 ≤ m2 ∧ m2 ≤ 255) (w : World) :
    Calls Try.prog 6 #[.agg #[.int .i64 fx, .int .i64 fy, .int .i64 tx, .int .i64 ty, .int .i64 pe, .int .i64 pl, .int .i64 de, .int .i64 dl, .int .i64 ld, .int .i64 sv], .agg #[.int .i64 hx, .int .i64 hy, .int .i64 cp, .int .i64 st, .int .i64 en], .agg #[.int .u8 m0, .int .u8 m1, .int .u8 m2]] w fun r w' => r = .returned (.bool true) ∧ Below w.heap.size w w' := by
  obtain ⟨fx2, fy2, tx2, ty2, pe2, pl2, de2, dl2, ld2, sv2, cR⟩ := right_t fx fy tx ty pe pl de dl ld sv
  obtain ⟨hx2, hy2, cp2, st2, en2, cV, hcp, hst, hen⟩ := vehicle_t hx hy cp st en
  have hP : At (((w.alloc (.cells #[.int .i64 fx, .int .i64 fy, .int .i64 tx, .int .i64 ty, .int .i64 pe, .int .i64 pl, .int .i64 de, .int .i64 dl, .int .i64 ld, .int .i64 sv] 27)).alloc (.cells #[.int .i64 hx, .int .i64 hy, .int .i64 cp, .int .i64 st, .int .i64 en] 29)).alloc (.cells #[.int .u8 m0, .int .u8 m1, .int .u8 m2] 50)) w.heap.size 27 #[.int .i64 fx, .int .i64 fy, .int .i64 tx, .int .i64 ty, .int .i64 pe, .int .i64 pl, .int .i64 de, .int .i64 dl, .int .i64 ld, .int .i64 sv] := ((At.new w _ _).alloc _).alloc _
  have hV : At (((w.alloc (.cells #[.int .i64 fx, .int .i64 fy, .int .i64 tx, .int .i64 ty, .int .i64 pe, .int .i64 pl, .int .i64 de, .int .i64 dl, .int .i64 ld, .int .i64 sv] 27)).alloc (.cells #[.int .i64 hx, .int .i64 hy, .int .i64 cp, .int .i64 st, .int .i64 en] 29)).alloc (.cells #[.int .u8 m0, .int .u8 m1, .int .u8 m2] 50)) (w.heap.size + 1) 29 #[.int .i64 hx, .int .i64 hy, .int .i64 cp, .int .i64 st, .int .i64 en] := (At.new_ _ _ _ (by simp)).alloc _
  have hM : At (((w.alloc (.cells #[.int .i64 fx, .int .i64 fy, .int .i64 tx, .int .i64 ty, .int .i64 pe, .int .i64 pl, .int .i64 de, .int .i64 dl, .int .i64 ld, .int .i64 sv] 27)).alloc (.cells #[.int .i64 hx, .int .i64 hy, .int .i64 cp, .int .i64 st, .int .i64 en] 29)).alloc (.cells #[.int .u8 m0, .int .u8 m1, .int .u8 m2] 50)) (w.heap.size + 1 + 1) 50 #[.int .u8 m0, .int .u8 m1, .int .u8 m2] := At.new_ _ _ _ (by simp)
  have hB : Below w.heap.size w (((w.alloc (.cells #[.int .i64 fx, .int .i64 fy, .int .i64 tx, .int .i64 ty, .int .i64 pe, .int .i64 pl, .int .i64 de, .int .i64 dl, .int .i64 ld, .int .i64 sv] 27)).alloc (.cells #[.int .i64 hx, .int .i64 hy, .int .i64 cp, .int .i64 st, .int .i64 en] 29)).alloc (.cells #[.int .u8 m0, .int .u8 m1, .int .u8 m2] 50)) := by
    repeat (first | exact Below.refl _ _ | refine Below.alloc ?_ (by simp <;> omega) _)
  obtain ⟨hm01, hm02⟩ := hm0
  obtain ⟨hm11, hm12⟩ := hm1
  obtain ⟨hm21, hm22⟩ := hm2
  obtain ⟨hc1, hc2⟩ := hcp
  obtain ⟨ht1, ht2⟩ := hst
  obtain ⟨he1, he2⟩ := hen
  have kA := fun w => Alone_any fx2 fy2 tx2 ty2 pe2 pl2 de2 dl2 ld2 sv2 hx2 hy2 cp2 st2 en2 w
  have kW := fun w => Alone_any fx2 fy2 tx2 ty2 pe2 pl2 de2 dl2 ld2 sv2 hx2 hy2 (cp2 + m1) (max 0 (st2 - m0)) (en2 + m2) w
  have kL := fun w => Least_any fx2 fy2 tx2 ty2 pe2 pl2 de2 dl2 ld2 sv2 w
  obtain ⟨LV, hLV⟩ : ∃ A, leastV fx2 fy2 tx2 ty2 pe2 pl2 de2 dl2 ld2 sv2 = A := ⟨_, rfl⟩
  obtain ⟨AV, hAV⟩ : ∃ A, aloneV fx2 fy2 tx2 ty2 pe2 pl2 de2 dl2 ld2 sv2 hx2 hy2 cp2 st2 en2 = A := ⟨_, rfl⟩
  obtain ⟨BV, hBV⟩ : ∃ A, aloneV fx2 fy2 tx2 ty2 pe2 pl2 de2 dl2 ld2 sv2 hx2 hy2 (cp2 + m1) (max 0 (st2 - m0)) (en2 + m2) = A := ⟨_, rfl⟩
  rw [hLV] at kL
  rw [hAV] at kA
  rw [hBV] at kW
  cases hT : aloneB fx2 fy2 tx2 ty2 pe2 pl2 de2 dl2 ld2 sv2 hx2 hy2 cp2 st2 en2
  · obtain ⟨BB, hBB⟩ : ∃ A, aloneB fx2 fy2 tx2 ty2 pe2 pl2 de2 dl2 ld2 sv2 hx2 hy2 (cp2 + m1) (max 0 (st2 - m0)) (en2 + m2) = A := ⟨_, rfl⟩
    rw [hT] at kA
    rw [hBB] at kW
    clear hT hBB hBV hAV hLV
    go_enter Try.func6, Try.ntmps6
    go_wp2_with fail
    generalize (((w.alloc (.cells #[.int .i64 fx, .int .i64 fy, .int .i64 tx, .int .i64 ty, .int .i64 pe, .int .i64 pl, .int .i64 de, .int .i64 dl, .int .i64 ld, .int .i64 sv] 27)).alloc (.cells #[.int .i64 hx, .int .i64 hy, .int .i64 cp, .int .i64 st, .int .i64 en] 29)).alloc (.cells #[.int .u8 m0, .int .u8 m1, .int .u8 m2] 50)) = w0 at *
    refine (works_any _).mono ?_
    rintro e w1 ⟨rfl, hb1⟩
    replace hP := hP.keep hb1 hP.inside
    replace hV := hV.keep hb1 hV.inside
    replace hM := hM.keep hb1 hM.inside
    replace hB := hB.trans (hb1.mono hB.size)
    clear hb1
    have c0 := hP.cell 0
    have c1 := hP.cell 1
    have c2 := hP.cell 2
    have c3 := hP.cell 3
    have c4 := hP.cell 4
    have c5 := hP.cell 5
    have c6 := hP.cell 6
    have c7 := hP.cell 7
    have c8 := hP.cell 8
    have c9 := hP.cell 9
    simp at c0 c1 c2 c3 c4 c5 c6 c7 c8 c9
    have v0 := hV.cell 0
    have v1 := hV.cell 1
    have v2 := hV.cell 2
    have v3 := hV.cell 3
    have v4 := hV.cell 4
    simp at v0 v1 v2 v3 v4
    go_wp2_with fail
    have kc0 := cell_regrown c0
    have kc1 := cell_regrown c1
    have kc2 := cell_regrown c2
    have kc3 := cell_regrown c3
    have kc4 := cell_regrown c4
    have kc5 := cell_regrown c5
    have kc6 := cell_regrown c6
    have kc7 := cell_regrown c7
    have kc8 := cell_regrown c8
    have kc9 := cell_regrown c9
    have kv0 := cell_regrown v0
    have kv1 := cell_regrown v1
    have kv2 := cell_regrown v2
    have kv3 := cell_regrown v3
    have kv4 := cell_regrown v4
    have kR := fun d os => Calls.regrown_of (cR (grow (redrawn w1 d) os))
    have kV := fun d os => Calls.regrown_of (cV (grow (redrawn w1 d) os))
    refine wp_region_below_tail 4 (by kernel_rfl) (by kernel_rfl) (by kernel_rfl) ?_
    simp only [List.take_succ_cons, List.take_zero, List.drop_succ_cons, List.drop_zero]
    repeat (go_big_quiet_step (first | with_reducible exact kR _ _ | with_reducible exact kV _ _))
    refine wpQuiet_nil ?_
    intro _ hw'
    obtain ⟨⟨dq, osq⟩, hw''⟩ := hw'
    subst hw''
    replace hB := hB.trans ((below_regrown w1 dq osq).mono hB.size)
    replace hP := hP.keep (below_regrown w1 dq osq) hP.inside
    replace hV := hV.keep (below_regrown w1 dq osq) hV.inside
    replace hM := hM.keep (below_regrown w1 dq osq) hM.inside
    generalize grow (redrawn w1 dq) osq = w2 at *
    clear kR kV kc0 kc1 kc2 kc3 kc4 kc5 kc6 kc7 kc8 kc9 kv0 kv1 kv2 kv3 kv4 c0 c1 c2 c3 c4 c5 c6 c7 c8 c9 v0 v1 v2 v3 v4
    have c0 := hP.cell 0
    have c1 := hP.cell 1
    have c2 := hP.cell 2
    have c3 := hP.cell 3
    have c4 := hP.cell 4
    have c5 := hP.cell 5
    have c6 := hP.cell 6
    have c7 := hP.cell 7
    have c8 := hP.cell 8
    have c9 := hP.cell 9
    simp at c0 c1 c2 c3 c4 c5 c6 c7 c8 c9
    have v0 := hV.cell 0
    have v1 := hV.cell 1
    have v2 := hV.cell 2
    have v3 := hV.cell 3
    have v4 := hV.cell 4
    simp at v0 v1 v2 v3 v4
    have hfp := hP.free
    have hfv := hV.free
    go_upto_region 4 with fail
    replace hP : At (((((((((((((((w2.setCell ⟨w.heap.size, 0, none⟩ (.int .i64 fx2)).setCell ⟨w.heap.size, 1, none⟩ (.int .i64 fy2)).setCell ⟨w.heap.size, 2, none⟩ (.int .i64 tx2)).setCell ⟨w.heap.size, 3, none⟩ (.int .i64 ty2)).setCell ⟨w.heap.size, 4, none⟩ (.int .i64 pe2)).setCell ⟨w.heap.size, 5, none⟩ (.int .i64 pl2)).setCell ⟨w.heap.size, 6, none⟩ (.int .i64 de2)).setCell ⟨w.heap.size, 7, none⟩ (.int .i64 dl2)).setCell ⟨w.heap.size, 8, none⟩ (.int .i64 ld2)).setCell ⟨w.heap.size, 9, none⟩ (.int .i64 sv2)).setCell ⟨w.heap.size + 1, 0, none⟩ (.int .i64 hx2)).setCell ⟨w.heap.size + 1, 1, none⟩ (.int .i64 hy2)).setCell ⟨w.heap.size + 1, 2, none⟩ (.int .i64 cp2)).setCell ⟨w.heap.size + 1, 3, none⟩ (.int .i64 st2)).setCell ⟨w.heap.size + 1, 4, none⟩ (.int .i64 en2)) w.heap.size 27 #[.int .i64 fx2, .int .i64 fy2, .int .i64 tx2, .int .i64 ty2, .int .i64 pe2, .int .i64 pl2, .int .i64 de2, .int .i64 dl2, .int .i64 ld2, .int .i64 sv2] := ((((((put10 hP).far (by omega) 0 _).far (by omega) 1 _).far (by omega) 2 _).far (by omega) 3 _).far (by omega) 4 _)
    replace hV : At (((((((((((((((w2.setCell ⟨w.heap.size, 0, none⟩ (.int .i64 fx2)).setCell ⟨w.heap.size, 1, none⟩ (.int .i64 fy2)).setCell ⟨w.heap.size, 2, none⟩ (.int .i64 tx2)).setCell ⟨w.heap.size, 3, none⟩ (.int .i64 ty2)).setCell ⟨w.heap.size, 4, none⟩ (.int .i64 pe2)).setCell ⟨w.heap.size, 5, none⟩ (.int .i64 pl2)).setCell ⟨w.heap.size, 6, none⟩ (.int .i64 de2)).setCell ⟨w.heap.size, 7, none⟩ (.int .i64 dl2)).setCell ⟨w.heap.size, 8, none⟩ (.int .i64 ld2)).setCell ⟨w.heap.size, 9, none⟩ (.int .i64 sv2)).setCell ⟨w.heap.size + 1, 0, none⟩ (.int .i64 hx2)).setCell ⟨w.heap.size + 1, 1, none⟩ (.int .i64 hy2)).setCell ⟨w.heap.size + 1, 2, none⟩ (.int .i64 cp2)).setCell ⟨w.heap.size + 1, 3, none⟩ (.int .i64 st2)).setCell ⟨w.heap.size + 1, 4, none⟩ (.int .i64 en2)) (w.heap.size + 1) 29 #[.int .i64 hx2, .int .i64 hy2, .int .i64 cp2, .int .i64 st2, .int .i64 en2] := by simpa using (((((((((((((((hV.far (by omega) 0 _).far (by omega) 1 _).far (by omega) 2 _).far (by omega) 3 _).far (by omega) 4 _).far (by omega) 5 _).far (by omega) 6 _).far (by omega) 7 _).far (by omega) 8 _).far (by omega) 9 _).put 0 (.int .i64 hx2)).put 1 (.int .i64 hy2)).put 2 (.int .i64 cp2)).put 3 (.int .i64 st2)).put 4 (.int .i64 en2))
    replace hM : At (((((((((((((((w2.setCell ⟨w.heap.size, 0, none⟩ (.int .i64 fx2)).setCell ⟨w.heap.size, 1, none⟩ (.int .i64 fy2)).setCell ⟨w.heap.size, 2, none⟩ (.int .i64 tx2)).setCell ⟨w.heap.size, 3, none⟩ (.int .i64 ty2)).setCell ⟨w.heap.size, 4, none⟩ (.int .i64 pe2)).setCell ⟨w.heap.size, 5, none⟩ (.int .i64 pl2)).setCell ⟨w.heap.size, 6, none⟩ (.int .i64 de2)).setCell ⟨w.heap.size, 7, none⟩ (.int .i64 dl2)).setCell ⟨w.heap.size, 8, none⟩ (.int .i64 ld2)).setCell ⟨w.heap.size, 9, none⟩ (.int .i64 sv2)).setCell ⟨w.heap.size + 1, 0, none⟩ (.int .i64 hx2)).setCell ⟨w.heap.size + 1, 1, none⟩ (.int .i64 hy2)).setCell ⟨w.heap.size + 1, 2, none⟩ (.int .i64 cp2)).setCell ⟨w.heap.size + 1, 3, none⟩ (.int .i64 st2)).setCell ⟨w.heap.size + 1, 4, none⟩ (.int .i64 en2)) (w.heap.size + 1 + 1) 50 #[.int .u8 m0, .int .u8 m1, .int .u8 m2] := (((((((((((((((hM.far (by omega) 0 _).far (by omega) 1 _).far (by omega) 2 _).far (by omega) 3 _).far (by omega) 4 _).far (by omega) 5 _).far (by omega) 6 _).far (by omega) 7 _).far (by omega) 8 _).far (by omega) 9 _).far (by omega) 0 _).far (by omega) 1 _).far (by omega) 2 _).far (by omega) 3 _).far (by omega) 4 _)
    replace hB : Below w.heap.size w (((((((((((((((w2.setCell ⟨w.heap.size, 0, none⟩ (.int .i64 fx2)).setCell ⟨w.heap.size, 1, none⟩ (.int .i64 fy2)).setCell ⟨w.heap.size, 2, none⟩ (.int .i64 tx2)).setCell ⟨w.heap.size, 3, none⟩ (.int .i64 ty2)).setCell ⟨w.heap.size, 4, none⟩ (.int .i64 pe2)).setCell ⟨w.heap.size, 5, none⟩ (.int .i64 pl2)).setCell ⟨w.heap.size, 6, none⟩ (.int .i64 de2)).setCell ⟨w.heap.size, 7, none⟩ (.int .i64 dl2)).setCell ⟨w.heap.size, 8, none⟩ (.int .i64 ld2)).setCell ⟨w.heap.size, 9, none⟩ (.int .i64 sv2)).setCell ⟨w.heap.size + 1, 0, none⟩ (.int .i64 hx2)).setCell ⟨w.heap.size + 1, 1, none⟩ (.int .i64 hy2)).setCell ⟨w.heap.size + 1, 2, none⟩ (.int .i64 cp2)).setCell ⟨w.heap.size + 1, 3, none⟩ (.int .i64 st2)).setCell ⟨w.heap.size + 1, 4, none⟩ (.int .i64 en2)) := (Below.setCell (Below.setCell (Below.setCell (Below.setCell (Below.setCell (Below.setCell (Below.setCell (Below.setCell (Below.setCell (Below.setCell (Below.setCell (Below.setCell (Below.setCell (Below.setCell (Below.setCell hB (by show w.heap.size ≤ w.heap.size; omega) _) (by show w.heap.size ≤ w.heap.size; omega) _) (by show w.heap.size ≤ w.heap.size; omega) _) (by show w.heap.size ≤ w.heap.size; omega) _) (by show w.heap.size ≤ w.heap.size; omega) _) (by show w.heap.size ≤ w.heap.size; omega) _) (by show w.heap.size ≤ w.heap.size; omega) _) (by show w.heap.size ≤ w.heap.size; omega) _) (by show w.heap.size ≤ w.heap.size; omega) _) (by show w.heap.size ≤ w.heap.size; omega) _) (by show w.heap.size ≤ w.heap.size + 1; omega) _) (by show w.heap.size ≤ w.heap.size + 1; omega) _) (by show w.heap.size ≤ w.heap.size + 1; omega) _) (by show w.heap.size ≤ w.heap.size + 1; omega) _) (by show w.heap.size ≤ w.heap.size + 1; omega) _)
    generalize (((((((((((((((w2.setCell ⟨w.heap.size, 0, none⟩ (.int .i64 fx2)).setCell ⟨w.heap.size, 1, none⟩ (.int .i64 fy2)).setCell ⟨w.heap.size, 2, none⟩ (.int .i64 tx2)).setCell ⟨w.heap.size, 3, none⟩ (.int .i64 ty2)).setCell ⟨w.heap.size, 4, none⟩ (.int .i64 pe2)).setCell ⟨w.heap.size, 5, none⟩ (.int .i64 pl2)).setCell ⟨w.heap.size, 6, none⟩ (.int .i64 de2)).setCell ⟨w.heap.size, 7, none⟩ (.int .i64 dl2)).setCell ⟨w.heap.size, 8, none⟩ (.int .i64 ld2)).setCell ⟨w.heap.size, 9, none⟩ (.int .i64 sv2)).setCell ⟨w.heap.size + 1, 0, none⟩ (.int .i64 hx2)).setCell ⟨w.heap.size + 1, 1, none⟩ (.int .i64 hy2)).setCell ⟨w.heap.size + 1, 2, none⟩ (.int .i64 cp2)).setCell ⟨w.heap.size + 1, 3, none⟩ (.int .i64 st2)).setCell ⟨w.heap.size + 1, 4, none⟩ (.int .i64 en2)) = w3 at *
    clear c0 c1 c2 c3 c4 c5 c6 c7 c8 c9 v0 v1 v2 v3 v4 hfp hfv
    have c0 := hP.cell 0
    have c1 := hP.cell 1
    have c2 := hP.cell 2
    have c3 := hP.cell 3
    have c4 := hP.cell 4
    have c5 := hP.cell 5
    have c6 := hP.cell 6
    have c7 := hP.cell 7
    have c8 := hP.cell 8
    have c9 := hP.cell 9
    simp at c0 c1 c2 c3 c4 c5 c6 c7 c8 c9
    have v0 := hV.cell 0
    have v1 := hV.cell 1
    have v2 := hV.cell 2
    have v3 := hV.cell 3
    have v4 := hV.cell 4
    simp at v0 v1 v2 v3 v4
    have q0 := hM.cell 0
    have q1 := hM.cell 1
    have q2 := hM.cell 2
    simp at q0 q1 q2
    have hpi := hP.inside
    have hvi := hV.inside
    have hmi := hM.inside
    go_wp2_with fail
    have hW : At (w3.alloc (.cells #[.int .i64 hx2, .int .i64 hy2, .int .i64 (cp2 + m1), .int .i64 (max 0 (st2 - m0)), .int .i64 (en2 + m2)] 29)) w3.heap.size 29 #[.int .i64 hx2, .int .i64 hy2, .int .i64 (cp2 + m1), .int .i64 (max 0 (st2 - m0)), .int .i64 (en2 + m2)] := At.new _ _ _
    replace hP := hP.alloc (.cells #[.int .i64 hx2, .int .i64 hy2, .int .i64 (cp2 + m1), .int .i64 (max 0 (st2 - m0)), .int .i64 (en2 + m2)] 29)
    replace hV := hV.alloc (.cells #[.int .i64 hx2, .int .i64 hy2, .int .i64 (cp2 + m1), .int .i64 (max 0 (st2 - m0)), .int .i64 (en2 + m2)] 29)
    replace hB := hB.alloc hB.size (.cells #[.int .i64 hx2, .int .i64 hy2, .int .i64 (cp2 + m1), .int .i64 (max 0 (st2 - m0)), .int .i64 (en2 + m2)] 29)
    generalize (w3.alloc (.cells #[.int .i64 hx2, .int .i64 hy2, .int .i64 (cp2 + m1), .int .i64 (max 0 (st2 - m0)), .int .i64 (en2 + m2)] 29)) = w4 at *
    generalize w3.heap.size = g at *
    clear q0 q1 q2 hM
    refine (kA _).mono ?_
    rintro e w' ⟨rfl, hb1⟩
    replace hP := hP.keep hb1 hP.inside
    replace hV := hV.keep hb1 hV.inside
    replace hW := hW.keep hb1 hW.inside
    replace hB := hB.trans (hb1.mono hB.size)
    clear hb1
    try clear c0 c1 c2 c3 c4 c5 c6 c7 c8 c9 v0 v1 v2 v3 v4 t0 t1 t2 t3 t4
    have c0 := hP.cell 0
    have c1 := hP.cell 1
    have c2 := hP.cell 2
    have c3 := hP.cell 3
    have c4 := hP.cell 4
    have c5 := hP.cell 5
    have c6 := hP.cell 6
    have c7 := hP.cell 7
    have c8 := hP.cell 8
    have c9 := hP.cell 9
    simp at c0 c1 c2 c3 c4 c5 c6 c7 c8 c9
    have v0 := hV.cell 0
    have v1 := hV.cell 1
    have v2 := hV.cell 2
    have v3 := hV.cell 3
    have v4 := hV.cell 4
    simp at v0 v1 v2 v3 v4
    have t0 := hW.cell 0
    have t1 := hW.cell 1
    have t2 := hW.cell 2
    have t3 := hW.cell 3
    have t4 := hW.cell 4
    simp at t0 t1 t2 t3 t4
    go_wp2_with fail
    refine (kW _).mono ?_
    rintro e w' ⟨rfl, hb1⟩
    replace hP := hP.keep hb1 hP.inside
    replace hV := hV.keep hb1 hV.inside
    replace hW := hW.keep hb1 hW.inside
    replace hB := hB.trans (hb1.mono hB.size)
    clear hb1
    try clear c0 c1 c2 c3 c4 c5 c6 c7 c8 c9 v0 v1 v2 v3 v4 t0 t1 t2 t3 t4
    have c0 := hP.cell 0
    have c1 := hP.cell 1
    have c2 := hP.cell 2
    have c3 := hP.cell 3
    have c4 := hP.cell 4
    have c5 := hP.cell 5
    have c6 := hP.cell 6
    have c7 := hP.cell 7
    have c8 := hP.cell 8
    have c9 := hP.cell 9
    simp at c0 c1 c2 c3 c4 c5 c6 c7 c8 c9
    have v0 := hV.cell 0
    have v1 := hV.cell 1
    have v2 := hV.cell 2
    have v3 := hV.cell 3
    have v4 := hV.cell 4
    simp at v0 v1 v2 v3 v4
    have t0 := hW.cell 0
    have t1 := hW.cell 1
    have t2 := hW.cell 2
    have t3 := hW.cell 3
    have t4 := hW.cell 4
    simp at t0 t1 t2 t3 t4
    go_wp2_with fail
    generalize w' = w7 at *
    have kc0 := cell_regrown c0
    have kc1 := cell_regrown c1
    have kc2 := cell_regrown c2
    have kc3 := cell_regrown c3
    have kc4 := cell_regrown c4
    have kc5 := cell_regrown c5
    have kc6 := cell_regrown c6
    have kc7 := cell_regrown c7
    have kc8 := cell_regrown c8
    have kc9 := cell_regrown c9
    have kv0 := cell_regrown v0
    have kv1 := cell_regrown v1
    have kv2 := cell_regrown v2
    have kv3 := cell_regrown v3
    have kv4 := cell_regrown v4
    have kkL := fun d os => Calls.regrown_of (kL (grow (redrawn w7 d) os))
    clear kA kW cR cV
    try simp only [List.append_eq, List.cons_append, List.nil_append]
    refine wp_region_quiet_below (by kernel_rfl) (by kernel_rfl) ?_
    repeat (go_big_quiet_step (first | with_reducible exact kkL _ _))
    refine wpQuiet_nil ?_
    intro _ hw'
    obtain ⟨⟨dq, osq⟩, hw''⟩ := hw'
    subst hw''
    replace hB := hB.trans ((below_regrown w7 dq osq).mono hB.size)
    generalize grow (redrawn w7 dq) osq = w8 at *
    clear kkL c0 c1 c2 c3 c4 c5 c6 c7 c8 c9 kc0 kc1 kc2 kc3 kc4 kc5 kc6 kc7 kc8 kc9 kv0 kv1 kv2 kv3 kv4
    go_wp2
    go_ret
    exact ⟨Order.ret_bool (by simp), hB⟩
  · have e1 := early_serves (cp2 := (cp2 + m1)) (st2 := (max 0 (st2 - m0))) (en2 := (en2 + m2)) hT (by omega) (by omega) (by omega) (by omega) (by omega) (by omega)
    have e2 := early_least hT
    have e3 := (alone_yes ((aloneB_iff fx2 fy2 tx2 ty2 pe2 pl2 de2 dl2 ld2 sv2 hx2 hy2 cp2 st2 en2).1 hT)).2
    have e4 := (alone_yes ((aloneB_iff fx2 fy2 tx2 ty2 pe2 pl2 de2 dl2 ld2 sv2 hx2 hy2 (cp2 + m1) (max 0 (st2 - m0)) (en2 + m2)).1 e1.1)).2
    have e5 := (chk_iff fx2 fy2 tx2 ty2 pe2 pl2 de2 dl2 ld2 sv2).1 ((aloneB_iff fx2 fy2 tx2 ty2 pe2 pl2 de2 dl2 ld2 sv2 hx2 hy2 cp2 st2 en2).1 hT).1
    have e6 := apV_bd (fx := fx2) (fy := fy2) (tx := tx2) (ty := ty2) (pe := pe2) (pl := pl2) (de := de2) (dl := dl2) (ld := ld2) e5.2.2.2
    have e7 : leastV fx2 fy2 tx2 ty2 pe2 pl2 de2 dl2 ld2 sv2 = apV fx2 fy2 tx2 ty2 pe2 pl2 de2 dl2 ld2 sv2 + sv2 := by unfold leastV; rw [((aloneB_iff fx2 fy2 tx2 ty2 pe2 pl2 de2 dl2 ld2 sv2 hx2 hy2 cp2 st2 en2).1 hT).1]; rfl
    have e8 := e5.2.2.2
    have e9 := e1.2
    rw [hT] at kA
    rw [e1.1] at kW
    rw [hAV] at e3
    rw [hBV] at e4
    rw [hLV] at e2 e7
    rw [← e3, ← e4] at e9
    rw [← e3] at e2
    have f1 : 0 ≤ LV := by omega
    have f2 : LV ≤ 5000 := by omega
    have f3 : BV ≤ AV := e9
    have f4 : st2 + LV ≤ AV := e2.1
    have f5 : AV ≤ en2 := e2.2
    clear e1 e2 e3 e4 e5 e6 e7 e8 e9 hT hBV hAV hLV
    have d1 : decide (BV ≤ AV) = true := by simpa using f3
    have d2 : decide (AV ≥ st2 + LV) = true := by simpa using f4
    have d2' : decide (st2 + LV ≤ AV) = true := by simpa using f4
    have d3 : decide (AV ≤ en2) = true := by simpa using f5
    go_enter Try.func6, Try.ntmps6
    go_wp2_with fail
    generalize (((w.alloc (.cells #[.int .i64 fx, .int .i64 fy, .int .i64 tx, .int .i64 ty, .int .i64 pe, .int .i64 pl, .int .i64 de, .int .i64 dl, .int .i64 ld, .int .i64 sv] 27)).alloc (.cells #[.int .i64 hx, .int .i64 hy, .int .i64 cp, .int .i64 st, .int .i64 en] 29)).alloc (.cells #[.int .u8 m0, .int .u8 m1, .int .u8 m2] 50)) = w0 at *
    refine (works_any _).mono ?_
    rintro e w1 ⟨rfl, hb1⟩
    replace hP := hP.keep hb1 hP.inside
    replace hV := hV.keep hb1 hV.inside
    replace hM := hM.keep hb1 hM.inside
    replace hB := hB.trans (hb1.mono hB.size)
    clear hb1
    have c0 := hP.cell 0
    have c1 := hP.cell 1
    have c2 := hP.cell 2
    have c3 := hP.cell 3
    have c4 := hP.cell 4
    have c5 := hP.cell 5
    have c6 := hP.cell 6
    have c7 := hP.cell 7
    have c8 := hP.cell 8
    have c9 := hP.cell 9
    simp at c0 c1 c2 c3 c4 c5 c6 c7 c8 c9
    have v0 := hV.cell 0
    have v1 := hV.cell 1
    have v2 := hV.cell 2
    have v3 := hV.cell 3
    have v4 := hV.cell 4
    simp at v0 v1 v2 v3 v4
    go_wp2_with fail
    have kc0 := cell_regrown c0
    have kc1 := cell_regrown c1
    have kc2 := cell_regrown c2
    have kc3 := cell_regrown c3
    have kc4 := cell_regrown c4
    have kc5 := cell_regrown c5
    have kc6 := cell_regrown c6
    have kc7 := cell_regrown c7
    have kc8 := cell_regrown c8
    have kc9 := cell_regrown c9
    have kv0 := cell_regrown v0
    have kv1 := cell_regrown v1
    have kv2 := cell_regrown v2
    have kv3 := cell_regrown v3
    have kv4 := cell_regrown v4
    have kR := fun d os => Calls.regrown_of (cR (grow (redrawn w1 d) os))
    have kV := fun d os => Calls.regrown_of (cV (grow (redrawn w1 d) os))
    refine wp_region_below_tail 4 (by kernel_rfl) (by kernel_rfl) (by kernel_rfl) ?_
    simp only [List.take_succ_cons, List.take_zero, List.drop_succ_cons, List.drop_zero]
    repeat (go_big_quiet_step (first | with_reducible exact kR _ _ | with_reducible exact kV _ _))
    refine wpQuiet_nil ?_
    intro _ hw'
    obtain ⟨⟨dq, osq⟩, hw''⟩ := hw'
    subst hw''
    replace hB := hB.trans ((below_regrown w1 dq osq).mono hB.size)
    replace hP := hP.keep (below_regrown w1 dq osq) hP.inside
    replace hV := hV.keep (below_regrown w1 dq osq) hV.inside
    replace hM := hM.keep (below_regrown w1 dq osq) hM.inside
    generalize grow (redrawn w1 dq) osq = w2 at *
    clear kR kV kc0 kc1 kc2 kc3 kc4 kc5 kc6 kc7 kc8 kc9 kv0 kv1 kv2 kv3 kv4 c0 c1 c2 c3 c4 c5 c6 c7 c8 c9 v0 v1 v2 v3 v4
    have c0 := hP.cell 0
    have c1 := hP.cell 1
    have c2 := hP.cell 2
    have c3 := hP.cell 3
    have c4 := hP.cell 4
    have c5 := hP.cell 5
    have c6 := hP.cell 6
    have c7 := hP.cell 7
    have c8 := hP.cell 8
    have c9 := hP.cell 9
    simp at c0 c1 c2 c3 c4 c5 c6 c7 c8 c9
    have v0 := hV.cell 0
    have v1 := hV.cell 1
    have v2 := hV.cell 2
    have v3 := hV.cell 3
    have v4 := hV.cell 4
    simp at v0 v1 v2 v3 v4
    have hfp := hP.free
    have hfv := hV.free
    go_upto_region 4 with fail
    replace hP : At (((((((((((((((w2.setCell ⟨w.heap.size, 0, none⟩ (.int .i64 fx2)).setCell ⟨w.heap.size, 1, none⟩ (.int .i64 fy2)).setCell ⟨w.heap.size, 2, none⟩ (.int .i64 tx2)).setCell ⟨w.heap.size, 3, none⟩ (.int .i64 ty2)).setCell ⟨w.heap.size, 4, none⟩ (.int .i64 pe2)).setCell ⟨w.heap.size, 5, none⟩ (.int .i64 pl2)).setCell ⟨w.heap.size, 6, none⟩ (.int .i64 de2)).setCell ⟨w.heap.size, 7, none⟩ (.int .i64 dl2)).setCell ⟨w.heap.size, 8, none⟩ (.int .i64 ld2)).setCell ⟨w.heap.size, 9, none⟩ (.int .i64 sv2)).setCell ⟨w.heap.size + 1, 0, none⟩ (.int .i64 hx2)).setCell ⟨w.heap.size + 1, 1, none⟩ (.int .i64 hy2)).setCell ⟨w.heap.size + 1, 2, none⟩ (.int .i64 cp2)).setCell ⟨w.heap.size + 1, 3, none⟩ (.int .i64 st2)).setCell ⟨w.heap.size + 1, 4, none⟩ (.int .i64 en2)) w.heap.size 27 #[.int .i64 fx2, .int .i64 fy2, .int .i64 tx2, .int .i64 ty2, .int .i64 pe2, .int .i64 pl2, .int .i64 de2, .int .i64 dl2, .int .i64 ld2, .int .i64 sv2] := ((((((put10 hP).far (by omega) 0 _).far (by omega) 1 _).far (by omega) 2 _).far (by omega) 3 _).far (by omega) 4 _)
    replace hV : At (((((((((((((((w2.setCell ⟨w.heap.size, 0, none⟩ (.int .i64 fx2)).setCell ⟨w.heap.size, 1, none⟩ (.int .i64 fy2)).setCell ⟨w.heap.size, 2, none⟩ (.int .i64 tx2)).setCell ⟨w.heap.size, 3, none⟩ (.int .i64 ty2)).setCell ⟨w.heap.size, 4, none⟩ (.int .i64 pe2)).setCell ⟨w.heap.size, 5, none⟩ (.int .i64 pl2)).setCell ⟨w.heap.size, 6, none⟩ (.int .i64 de2)).setCell ⟨w.heap.size, 7, none⟩ (.int .i64 dl2)).setCell ⟨w.heap.size, 8, none⟩ (.int .i64 ld2)).setCell ⟨w.heap.size, 9, none⟩ (.int .i64 sv2)).setCell ⟨w.heap.size + 1, 0, none⟩ (.int .i64 hx2)).setCell ⟨w.heap.size + 1, 1, none⟩ (.int .i64 hy2)).setCell ⟨w.heap.size + 1, 2, none⟩ (.int .i64 cp2)).setCell ⟨w.heap.size + 1, 3, none⟩ (.int .i64 st2)).setCell ⟨w.heap.size + 1, 4, none⟩ (.int .i64 en2)) (w.heap.size + 1) 29 #[.int .i64 hx2, .int .i64 hy2, .int .i64 cp2, .int .i64 st2, .int .i64 en2] := by simpa using (((((((((((((((hV.far (by omega) 0 _).far (by omega) 1 _).far (by omega) 2 _).far (by omega) 3 _).far (by omega) 4 _).far (by omega) 5 _).far (by omega) 6 _).far (by omega) 7 _).far (by omega) 8 _).far (by omega) 9 _).put 0 (.int .i64 hx2)).put 1 (.int .i64 hy2)).put 2 (.int .i64 cp2)).put 3 (.int .i64 st2)).put 4 (.int .i64 en2))
    replace hM : At (((((((((((((((w2.setCell ⟨w.heap.size, 0, none⟩ (.int .i64 fx2)).setCell ⟨w.heap.size, 1, none⟩ (.int .i64 fy2)).setCell ⟨w.heap.size, 2, none⟩ (.int .i64 tx2)).setCell ⟨w.heap.size, 3, none⟩ (.int .i64 ty2)).setCell ⟨w.heap.size, 4, none⟩ (.int .i64 pe2)).setCell ⟨w.heap.size, 5, none⟩ (.int .i64 pl2)).setCell ⟨w.heap.size, 6, none⟩ (.int .i64 de2)).setCell ⟨w.heap.size, 7, none⟩ (.int .i64 dl2)).setCell ⟨w.heap.size, 8, none⟩ (.int .i64 ld2)).setCell ⟨w.heap.size, 9, none⟩ (.int .i64 sv2)).setCell ⟨w.heap.size + 1, 0, none⟩ (.int .i64 hx2)).setCell ⟨w.heap.size + 1, 1, none⟩ (.int .i64 hy2)).setCell ⟨w.heap.size + 1, 2, none⟩ (.int .i64 cp2)).setCell ⟨w.heap.size + 1, 3, none⟩ (.int .i64 st2)).setCell ⟨w.heap.size + 1, 4, none⟩ (.int .i64 en2)) (w.heap.size + 1 + 1) 50 #[.int .u8 m0, .int .u8 m1, .int .u8 m2] := (((((((((((((((hM.far (by omega) 0 _).far (by omega) 1 _).far (by omega) 2 _).far (by omega) 3 _).far (by omega) 4 _).far (by omega) 5 _).far (by omega) 6 _).far (by omega) 7 _).far (by omega) 8 _).far (by omega) 9 _).far (by omega) 0 _).far (by omega) 1 _).far (by omega) 2 _).far (by omega) 3 _).far (by omega) 4 _)
    replace hB : Below w.heap.size w (((((((((((((((w2.setCell ⟨w.heap.size, 0, none⟩ (.int .i64 fx2)).setCell ⟨w.heap.size, 1, none⟩ (.int .i64 fy2)).setCell ⟨w.heap.size, 2, none⟩ (.int .i64 tx2)).setCell ⟨w.heap.size, 3, none⟩ (.int .i64 ty2)).setCell ⟨w.heap.size, 4, none⟩ (.int .i64 pe2)).setCell ⟨w.heap.size, 5, none⟩ (.int .i64 pl2)).setCell ⟨w.heap.size, 6, none⟩ (.int .i64 de2)).setCell ⟨w.heap.size, 7, none⟩ (.int .i64 dl2)).setCell ⟨w.heap.size, 8, none⟩ (.int .i64 ld2)).setCell ⟨w.heap.size, 9, none⟩ (.int .i64 sv2)).setCell ⟨w.heap.size + 1, 0, none⟩ (.int .i64 hx2)).setCell ⟨w.heap.size + 1, 1, none⟩ (.int .i64 hy2)).setCell ⟨w.heap.size + 1, 2, none⟩ (.int .i64 cp2)).setCell ⟨w.heap.size + 1, 3, none⟩ (.int .i64 st2)).setCell ⟨w.heap.size + 1, 4, none⟩ (.int .i64 en2)) := (Below.setCell (Below.setCell (Below.setCell (Below.setCell (Below.setCell (Below.setCell (Below.setCell (Below.setCell (Below.setCell (Below.setCell (Below.setCell (Below.setCell (Below.setCell (Below.setCell (Below.setCell hB (by show w.heap.size ≤ w.heap.size; omega) _) (by show w.heap.size ≤ w.heap.size; omega) _) (by show w.heap.size ≤ w.heap.size; omega) _) (by show w.heap.size ≤ w.heap.size; omega) _) (by show w.heap.size ≤ w.heap.size; omega) _) (by show w.heap.size ≤ w.heap.size; omega) _) (by show w.heap.size ≤ w.heap.size; omega) _) (by show w.heap.size ≤ w.heap.size; omega) _) (by show w.heap.size ≤ w.heap.size; omega) _) (by show w.heap.size ≤ w.heap.size; omega) _) (by show w.heap.size ≤ w.heap.size + 1; omega) _) (by show w.heap.size ≤ w.heap.size + 1; omega) _) (by show w.heap.size ≤ w.heap.size + 1; omega) _) (by show w.heap.size ≤ w.heap.size + 1; omega) _) (by show w.heap.size ≤ w.heap.size + 1; omega) _)
    generalize (((((((((((((((w2.setCell ⟨w.heap.size, 0, none⟩ (.int .i64 fx2)).setCell ⟨w.heap.size, 1, none⟩ (.int .i64 fy2)).setCell ⟨w.heap.size, 2, none⟩ (.int .i64 tx2)).setCell ⟨w.heap.size, 3, none⟩ (.int .i64 ty2)).setCell ⟨w.heap.size, 4, none⟩ (.int .i64 pe2)).setCell ⟨w.heap.size, 5, none⟩ (.int .i64 pl2)).setCell ⟨w.heap.size, 6, none⟩ (.int .i64 de2)).setCell ⟨w.heap.size, 7, none⟩ (.int .i64 dl2)).setCell ⟨w.heap.size, 8, none⟩ (.int .i64 ld2)).setCell ⟨w.heap.size, 9, none⟩ (.int .i64 sv2)).setCell ⟨w.heap.size + 1, 0, none⟩ (.int .i64 hx2)).setCell ⟨w.heap.size + 1, 1, none⟩ (.int .i64 hy2)).setCell ⟨w.heap.size + 1, 2, none⟩ (.int .i64 cp2)).setCell ⟨w.heap.size + 1, 3, none⟩ (.int .i64 st2)).setCell ⟨w.heap.size + 1, 4, none⟩ (.int .i64 en2)) = w3 at *
    clear c0 c1 c2 c3 c4 c5 c6 c7 c8 c9 v0 v1 v2 v3 v4 hfp hfv
    have c0 := hP.cell 0
    have c1 := hP.cell 1
    have c2 := hP.cell 2
    have c3 := hP.cell 3
    have c4 := hP.cell 4
    have c5 := hP.cell 5
    have c6 := hP.cell 6
    have c7 := hP.cell 7
    have c8 := hP.cell 8
    have c9 := hP.cell 9
    simp at c0 c1 c2 c3 c4 c5 c6 c7 c8 c9
    have v0 := hV.cell 0
    have v1 := hV.cell 1
    have v2 := hV.cell 2
    have v3 := hV.cell 3
    have v4 := hV.cell 4
    simp at v0 v1 v2 v3 v4
    have q0 := hM.cell 0
    have q1 := hM.cell 1
    have q2 := hM.cell 2
    simp at q0 q1 q2
    have hpi := hP.inside
    have hvi := hV.inside
    have hmi := hM.inside
    go_wp2_with fail
    have hW : At (w3.alloc (.cells #[.int .i64 hx2, .int .i64 hy2, .int .i64 (cp2 + m1), .int .i64 (max 0 (st2 - m0)), .int .i64 (en2 + m2)] 29)) w3.heap.size 29 #[.int .i64 hx2, .int .i64 hy2, .int .i64 (cp2 + m1), .int .i64 (max 0 (st2 - m0)), .int .i64 (en2 + m2)] := At.new _ _ _
    replace hP := hP.alloc (.cells #[.int .i64 hx2, .int .i64 hy2, .int .i64 (cp2 + m1), .int .i64 (max 0 (st2 - m0)), .int .i64 (en2 + m2)] 29)
    replace hV := hV.alloc (.cells #[.int .i64 hx2, .int .i64 hy2, .int .i64 (cp2 + m1), .int .i64 (max 0 (st2 - m0)), .int .i64 (en2 + m2)] 29)
    replace hB := hB.alloc hB.size (.cells #[.int .i64 hx2, .int .i64 hy2, .int .i64 (cp2 + m1), .int .i64 (max 0 (st2 - m0)), .int .i64 (en2 + m2)] 29)
    generalize (w3.alloc (.cells #[.int .i64 hx2, .int .i64 hy2, .int .i64 (cp2 + m1), .int .i64 (max 0 (st2 - m0)), .int .i64 (en2 + m2)] 29)) = w4 at *
    generalize w3.heap.size = g at *
    clear q0 q1 q2 hM
    refine (kA _).mono ?_
    rintro e w' ⟨rfl, hb1⟩
    replace hP := hP.keep hb1 hP.inside
    replace hV := hV.keep hb1 hV.inside
    replace hW := hW.keep hb1 hW.inside
    replace hB := hB.trans (hb1.mono hB.size)
    clear hb1
    try clear c0 c1 c2 c3 c4 c5 c6 c7 c8 c9 v0 v1 v2 v3 v4 t0 t1 t2 t3 t4
    have c0 := hP.cell 0
    have c1 := hP.cell 1
    have c2 := hP.cell 2
    have c3 := hP.cell 3
    have c4 := hP.cell 4
    have c5 := hP.cell 5
    have c6 := hP.cell 6
    have c7 := hP.cell 7
    have c8 := hP.cell 8
    have c9 := hP.cell 9
    simp at c0 c1 c2 c3 c4 c5 c6 c7 c8 c9
    have v0 := hV.cell 0
    have v1 := hV.cell 1
    have v2 := hV.cell 2
    have v3 := hV.cell 3
    have v4 := hV.cell 4
    simp at v0 v1 v2 v3 v4
    have t0 := hW.cell 0
    have t1 := hW.cell 1
    have t2 := hW.cell 2
    have t3 := hW.cell 3
    have t4 := hW.cell 4
    simp at t0 t1 t2 t3 t4
    go_wp2_with fail
    refine (kW _).mono ?_
    rintro e w' ⟨rfl, hb1⟩
    replace hP := hP.keep hb1 hP.inside
    replace hV := hV.keep hb1 hV.inside
    replace hW := hW.keep hb1 hW.inside
    replace hB := hB.trans (hb1.mono hB.size)
    clear hb1
    try clear c0 c1 c2 c3 c4 c5 c6 c7 c8 c9 v0 v1 v2 v3 v4 t0 t1 t2 t3 t4
    have c0 := hP.cell 0
    have c1 := hP.cell 1
    have c2 := hP.cell 2
    have c3 := hP.cell 3
    have c4 := hP.cell 4
    have c5 := hP.cell 5
    have c6 := hP.cell 6
    have c7 := hP.cell 7
    have c8 := hP.cell 8
    have c9 := hP.cell 9
    simp at c0 c1 c2 c3 c4 c5 c6 c7 c8 c9
    have v0 := hV.cell 0
    have v1 := hV.cell 1
    have v2 := hV.cell 2
    have v3 := hV.cell 3
    have v4 := hV.cell 4
    simp at v0 v1 v2 v3 v4
    have t0 := hW.cell 0
    have t1 := hW.cell 1
    have t2 := hW.cell 2
    have t3 := hW.cell 3
    have t4 := hW.cell 4
    simp at t0 t1 t2 t3 t4
    go_wp2_with fail
    generalize w' = w7 at *
    have kc0 := cell_regrown c0
    have kc1 := cell_regrown c1
    have kc2 := cell_regrown c2
    have kc3 := cell_regrown c3
    have kc4 := cell_regrown c4
    have kc5 := cell_regrown c5
    have kc6 := cell_regrown c6
    have kc7 := cell_regrown c7
    have kc8 := cell_regrown c8
    have kc9 := cell_regrown c9
    have kv0 := cell_regrown v0
    have kv1 := cell_regrown v1
    have kv2 := cell_regrown v2
    have kv3 := cell_regrown v3
    have kv4 := cell_regrown v4
    have kkL := fun d os => Calls.regrown_of (kL (grow (redrawn w7 d) os))
    clear kA kW cR cV
    try simp only [List.append_eq, List.cons_append, List.nil_append]
    refine wp_region_quiet_below (by kernel_rfl) (by kernel_rfl) ?_
    repeat (go_big_quiet_step (first | with_reducible exact kkL _ _))
    refine wpQuiet_nil ?_
    intro _ hw'
    obtain ⟨⟨dq, osq⟩, hw''⟩ := hw'
    subst hw''
    replace hB := hB.trans ((below_regrown w7 dq osq).mono hB.size)
    generalize grow (redrawn w7 dq) osq = w8 at *
    clear kkL c0 c1 c2 c3 c4 c5 c6 c7 c8 c9 kc0 kc1 kc2 kc3 kc4 kc5 kc6 kc7 kc8 kc9 kv0 kv1 kv2 kv3 kv4
    go_wp2
    go_ret
    exact ⟨Order.ret_bool (by simp), hB⟩

set_option maxRecDepth 100000 in
theorem lifted (os : Os) (started : os.Started) (H : Type) (enc : TypeId × Value → H) :
    ReturnsInHanded {} Try.checked os 6 .any (Rows.orderEarlySpec.pre6 enc Try.prog Try.f6 Rows.orderEarlyRow.domain false) (Rows.orderEarlySpec.post enc Try.prog Try.f6 false true false false) := by
  refine returnsInHanded_of_change (C := Try.checked) own started (by kernel_rfl) Try.func6
    (ChangeSpec.witness6 (enc := enc) (C := Try.checked) false ⟨#[], #[.agg #[.int .i64 0, .int .i64 0, .int .i64 0, .int .i64 0, .int .i64 0, .int .i64 0, .int .i64 0, .int .i64 0, .int .i64 0, .int .i64 0], .agg #[.int .i64 0, .int .i64 0, .int .i64 0, .int .i64 0, .int .i64 0], .agg #[.int .u8 0, .int .u8 0, .int .u8 0]], []⟩ 8 (by kernel_rfl) (by kernel_rfl) (by kernel_rfl) (by kernel_rfl)) ?_
  intro W base args ds gs before hval0 hW hcnd _
  have hval : ∀ (j : Nat) t v, Try.f6.params[j]? = some t → args[j]? = some v → Value.okWide Try.prog W .any base t v := hval0
  have hW' := hW
  obtain ⟨p, q, hA0, hV, rfl, hfz, hnd⟩ := hW
  have hA : DataW.TrodAll enc Try.prog W 0 (fun _ => true) true Try.f6.params.toList args.toList ds p := hA0
  rw [Try.params6] at hA hval
  obtain ⟨v0, vs0, d0, ds0, p0, q0, hargs, rfl, rfl, h0, r0⟩ := trodAll_cons hA
  obtain ⟨v1, vs1, d1, ds1, p1, q1, rfl, rfl, rfl, h1, r1⟩ := trodAll_cons r0
  obtain ⟨v2, vs2, d2, ds2, p2, q2, rfl, rfl, rfl, h2, r2⟩ := trodAll_cons r1
  obtain ⟨rfl, rfl, rfl⟩ := trodAll_nil r2
  obtain rfl : args = #[v0, v1, v2] := by cases args; simp_all
  obtain ⟨rfl, rfl⟩ := trodVars_none hV
  obtain ⟨fx, fy, tx, ty, pe, pl, de, dl, ld, sv, rfl, _⟩ := Order.openRequest (hval 0 27 v0 rfl rfl) h0
  obtain ⟨hx, hy, cp, st, en, rfl, wen⟩ := Order.openVehicle (hval 1 29 v1 rfl rfl) h1
  obtain ⟨xs, hl, hv, hxs⟩ := Close.open_numbers Try.underlying50 Try.underlying5 (by kernel_rfl) (by kernel_rfl) (hval 2 50 v2 rfl rfl) h2
  obtain ⟨m0, m1, m2, rfl⟩ : ∃ a b c, xs = [a, b, c] := by
    match xs, hl with
    | [a, b, c], _ => exact ⟨a, b, c, rfl⟩
  obtain rfl : v2 = .agg #[.int .u8 m0, .int .u8 m1, .int .u8 m2] := by simpa using hv
  have wm0 := Window.u8_ends (hxs m0 (by simp))
  have wm1 := Window.u8_ends (hxs m1 (by simp))
  have wm2 := Window.u8_ends (hxs m2 (by simp))
  exact (walk fx fy tx ty pe pl de dl ld sv hx hy cp st en m0 m1 m2 wm0 wm1 wm2 W).mono fun e W' ⟨he, hb⟩ => ⟨_, he, Close.law_post laidOut (by kernel_rfl) rfl (by kernel_rfl) Try.underlying4 hW' rfl hb⟩

theorem over : Rows.orderEarlyRow.holds Try.pinned (OpenSpec.ofChange Rows.orderEarlySpec) :=
  OpenClaim.holds_of_wide 6 Try.f6 rfl rfl rfl rfl rfl rfl rfl ⟨rfl, rfl, rfl, rfl, rfl⟩ rfl rfl rfl rfl rfl (by kernel_rfl) Try.func6 (by kernel_rfl)
    (of_decide_eq_true (by kernel_rfl)) (by unfold Func.isWrapper; first | (rw [if_pos (by decide +kernel)]; kernel_rfl) | (rw [if_neg (by decide +kernel)]; exact ⟨rfl, rfl⟩))
    (fun os started H enc _ => lifted os started H enc)

theorem proved : Rows.OrderEarlySaid := over
#print axioms proved

end Go.Proofs.Ytcdgfjfomiokmaa.orderEarly
