/-
  For all requests, vehicles and sizes: whoever serves a request alone serves what is tight, in the same time, and the other way round; what can't be tight is served by nobody. Conditions: none but that the arguments are such values.
-/
import Derived.Test.YtcdgfjfomiokmaaOrderWorks
import Derived.Test.YtcdgfjfomiokmaaOrderOpen
namespace Go.Proofs.Ytcdgfjfomiokmaa.orderTight
open Go.ChangeShapes Go.WideShapes Go.ChangeAt Go.RowKit Go.Sort
open Go.Proofs.Ytcdgfjfomiokmaa.Mem Go.Proofs.Ytcdgfjfomiokmaa.Order Go.Proofs.Ytcdgfjfomiokmaa.Tail Go.Proofs.Ytcdgfjfomiokmaa.Window Go.Proofs.Ytcdgfjfomiokmaa.Place
set_option linter.unusedVariables false

theorem rights (fx fy tx ty pe pl de dl ld sv : Int) (b : Bool) : ∃ fx2 fy2 tx2 ty2 pe2 pl2 de2 dl2 ld2 sv2 : Int, ∀ w, Calls Try.prog 8 #[.agg #[.int .i64 fx, .int .i64 fy, .int .i64 tx, .int .i64 ty, .int .i64 pe, .int .i64 pl, .int .i64 de, .int .i64 dl, .int .i64 ld, .int .i64 sv], .bool b] w fun r w' => r = .returned (.agg #[.int .i64 fx2, .int .i64 fy2, .int .i64 tx2, .int .i64 ty2, .int .i64 pe2, .int .i64 pl2, .int .i64 de2, .int .i64 dl2, .int .i64 ld2, .int .i64 sv2]) ∧ Below w.heap.size w w' := by
  cases b
  · exact right_f fx fy tx ty pe pl de dl ld sv
  · exact right_t fx fy tx ty pe pl de dl ld sv
theorem vehicles (hx hy cp st en : Int) (b : Bool) : ∃ hx2 hy2 cp2 st2 en2 : Int, ∀ w, Calls Try.prog 9 #[.agg #[.int .i64 hx, .int .i64 hy, .int .i64 cp, .int .i64 st, .int .i64 en], .bool b] w fun r w' => r = .returned (.agg #[.int .i64 hx2, .int .i64 hy2, .int .i64 cp2, .int .i64 st2, .int .i64 en2]) ∧ Below w.heap.size w w' := by
  cases b
  · exact vehicle_f hx hy cp st en
  · obtain ⟨a, b, c, d, e, h, _⟩ := vehicle_t hx hy cp st en
    exact ⟨a, b, c, d, e, h⟩

set_option maxHeartbeats 8000000 in
theorem walk (fx fy tx ty pe pl de dl ld sv hx hy cp st en : Int) (b : Bool) (w : World) :
    Calls Try.prog 5 #[.agg #[.int .i64 fx, .int .i64 fy, .int .i64 tx, .int .i64 ty, .int .i64 pe, .int .i64 pl, .int .i64 de, .int .i64 dl, .int .i64 ld, .int .i64 sv], .agg #[.int .i64 hx, .int .i64 hy, .int .i64 cp, .int .i64 st, .int .i64 en], .bool b] w fun r w' => r = .returned (.bool true) ∧ Below w.heap.size w w' := by
  obtain ⟨fx2, fy2, tx2, ty2, pe2, pl2, de2, dl2, ld2, sv2, cR⟩ := rights fx fy tx ty pe pl de dl ld sv b
  obtain ⟨hx2, hy2, cp2, st2, en2, cV⟩ := vehicles hx hy cp st en b
  have hP : At ((w.alloc (.cells #[.int .i64 fx, .int .i64 fy, .int .i64 tx, .int .i64 ty, .int .i64 pe, .int .i64 pl, .int .i64 de, .int .i64 dl, .int .i64 ld, .int .i64 sv] 27)).alloc (.cells #[.int .i64 hx, .int .i64 hy, .int .i64 cp, .int .i64 st, .int .i64 en] 29)) w.heap.size 27 #[.int .i64 fx, .int .i64 fy, .int .i64 tx, .int .i64 ty, .int .i64 pe, .int .i64 pl, .int .i64 de, .int .i64 dl, .int .i64 ld, .int .i64 sv] := (At.new w _ _).alloc _
  have hV : At ((w.alloc (.cells #[.int .i64 fx, .int .i64 fy, .int .i64 tx, .int .i64 ty, .int .i64 pe, .int .i64 pl, .int .i64 de, .int .i64 dl, .int .i64 ld, .int .i64 sv] 27)).alloc (.cells #[.int .i64 hx, .int .i64 hy, .int .i64 cp, .int .i64 st, .int .i64 en] 29)) (w.heap.size + 1) 29 #[.int .i64 hx, .int .i64 hy, .int .i64 cp, .int .i64 st, .int .i64 en] := At.new_ _ _ _ (by simp)
  have hB : Below w.heap.size w ((w.alloc (.cells #[.int .i64 fx, .int .i64 fy, .int .i64 tx, .int .i64 ty, .int .i64 pe, .int .i64 pl, .int .i64 de, .int .i64 dl, .int .i64 ld, .int .i64 sv] 27)).alloc (.cells #[.int .i64 hx, .int .i64 hy, .int .i64 cp, .int .i64 st, .int .i64 en] 29)) := ((Below.refl _ _).alloc (Nat.le_refl _) _).alloc (by simp) _
  have kA := fun w => Alone_any fx2 fy2 tx2 ty2 pe2 pl2 de2 dl2 ld2 sv2 hx2 hy2 cp2 st2 en2 w
  have kT := fun w => Tight_any fx2 fy2 tx2 ty2 pe2 pl2 de2 dl2 ld2 sv2 w
  cases hT : tightB fx2 fy2 tx2 ty2 pe2 pl2 de2 dl2 ld2 sv2
  · have hU := untight hx2 hy2 cp2 st2 en2 hT
    obtain ⟨AV, hAV⟩ : ∃ A, aloneV fx2 fy2 tx2 ty2 pe2 pl2 de2 dl2 ld2 sv2 hx2 hy2 cp2 st2 en2 = A := ⟨_, rfl⟩
    rw [hAV, hU] at kA
    rw [hT] at kT
    simp only [orNil_f] at kT
    clear hT hU hAV
    go_enter Try.func5, Try.ntmps5
    go_wp2_with fail
    generalize ((w.alloc (.cells #[.int .i64 fx, .int .i64 fy, .int .i64 tx, .int .i64 ty, .int .i64 pe, .int .i64 pl, .int .i64 de, .int .i64 dl, .int .i64 ld, .int .i64 sv] 27)).alloc (.cells #[.int .i64 hx, .int .i64 hy, .int .i64 cp, .int .i64 st, .int .i64 en] 29)) = w0 at *
    refine (works_any _).mono ?_
    rintro e w1 ⟨rfl, hb1⟩
    replace hP := hP.keep hb1 hP.inside
    replace hV := hV.keep hb1 hV.inside
    replace hB := hB.trans (hb1.mono hB.size)
    clear hb1
    have c0 := hP.cell 0
    have c1 := hP.cell 1
    have c2 := hP.cell 2
    have c3 := hP.cell 3
    have c4 := hP.cell 4
    have c5 := hP.cell 5
    have c6 := hP.cell 6
    have c7 := hP.cell 7
    have c8 := hP.cell 8
    have c9 := hP.cell 9
    simp at c0 c1 c2 c3 c4 c5 c6 c7 c8 c9
    have v0 := hV.cell 0
    have v1 := hV.cell 1
    have v2 := hV.cell 2
    have v3 := hV.cell 3
    have v4 := hV.cell 4
    simp at v0 v1 v2 v3 v4
    go_wp2_with fail
    have kc0 := cell_regrown c0
    have kc1 := cell_regrown c1
    have kc2 := cell_regrown c2
    have kc3 := cell_regrown c3
    have kc4 := cell_regrown c4
    have kc5 := cell_regrown c5
    have kc6 := cell_regrown c6
    have kc7 := cell_regrown c7
    have kc8 := cell_regrown c8
    have kc9 := cell_regrown c9
    have kv0 := cell_regrown v0
    have kv1 := cell_regrown v1
    have kv2 := cell_regrown v2
    have kv3 := cell_regrown v3
    have kv4 := cell_regrown v4
    have kR := fun d os => Calls.regrown_of (cR (grow (redrawn w1 d) os))
    have kV := fun d os => Calls.regrown_of (cV (grow (redrawn w1 d) os))
    refine wp_region_below_tail 6 (by kernel_rfl) (by kernel_rfl) (by kernel_rfl) ?_
    simp only [List.take_succ_cons, List.take_zero, List.drop_succ_cons, List.drop_zero]
    repeat (go_big_quiet_step (first | with_reducible exact kR _ _ | with_reducible exact kV _ _))
    refine wpQuiet_nil ?_
    intro _ hw'
    obtain ⟨⟨dq, osq⟩, hw''⟩ := hw'
    subst hw''
    replace hB := hB.trans ((below_regrown w1 dq osq).mono hB.size)
    replace hP := hP.keep (below_regrown w1 dq osq) hP.inside
    replace hV := hV.keep (below_regrown w1 dq osq) hV.inside
    generalize grow (redrawn w1 dq) osq = w2 at *
    clear kR kV kc0 kc1 kc2 kc3 kc4 kc5 kc6 kc7 kc8 kc9 kv0 kv1 kv2 kv3 kv4 c0 c1 c2 c3 c4 c5 c6 c7 c8 c9 v0 v1 v2 v3 v4
    have c0 := hP.cell 0
    have c1 := hP.cell 1
    have c2 := hP.cell 2
    have c3 := hP.cell 3
    have c4 := hP.cell 4
    have c5 := hP.cell 5
    have c6 := hP.cell 6
    have c7 := hP.cell 7
    have c8 := hP.cell 8
    have c9 := hP.cell 9
    simp at c0 c1 c2 c3 c4 c5 c6 c7 c8 c9
    have v0 := hV.cell 0
    have v1 := hV.cell 1
    have v2 := hV.cell 2
    have v3 := hV.cell 3
    have v4 := hV.cell 4
    simp at v0 v1 v2 v3 v4
    have hfp := hP.free
    have hfv := hV.free
    go_wp2_with fail
    replace hP : At (((((((((((((((w2.setCell ⟨w.heap.size, 0, none⟩ (.int .i64 fx2)).setCell ⟨w.heap.size, 1, none⟩ (.int .i64 fy2)).setCell ⟨w.heap.size, 2, none⟩ (.int .i64 tx2)).setCell ⟨w.heap.size, 3, none⟩ (.int .i64 ty2)).setCell ⟨w.heap.size, 4, none⟩ (.int .i64 pe2)).setCell ⟨w.heap.size, 5, none⟩ (.int .i64 pl2)).setCell ⟨w.heap.size, 6, none⟩ (.int .i64 de2)).setCell ⟨w.heap.size, 7, none⟩ (.int .i64 dl2)).setCell ⟨w.heap.size, 8, none⟩ (.int .i64 ld2)).setCell ⟨w.heap.size, 9, none⟩ (.int .i64 sv2)).setCell ⟨w.heap.size + 1, 0, none⟩ (.int .i64 hx2)).setCell ⟨w.heap.size + 1, 1, none⟩ (.int .i64 hy2)).setCell ⟨w.heap.size + 1, 2, none⟩ (.int .i64 cp2)).setCell ⟨w.heap.size + 1, 3, none⟩ (.int .i64 st2)).setCell ⟨w.heap.size + 1, 4, none⟩ (.int .i64 en2)) w.heap.size 27 #[.int .i64 fx2, .int .i64 fy2, .int .i64 tx2, .int .i64 ty2, .int .i64 pe2, .int .i64 pl2, .int .i64 de2, .int .i64 dl2, .int .i64 ld2, .int .i64 sv2] := ((((((put10 hP).far (by omega) 0 _).far (by omega) 1 _).far (by omega) 2 _).far (by omega) 3 _).far (by omega) 4 _)
    replace hV : At (((((((((((((((w2.setCell ⟨w.heap.size, 0, none⟩ (.int .i64 fx2)).setCell ⟨w.heap.size, 1, none⟩ (.int .i64 fy2)).setCell ⟨w.heap.size, 2, none⟩ (.int .i64 tx2)).setCell ⟨w.heap.size, 3, none⟩ (.int .i64 ty2)).setCell ⟨w.heap.size, 4, none⟩ (.int .i64 pe2)).setCell ⟨w.heap.size, 5, none⟩ (.int .i64 pl2)).setCell ⟨w.heap.size, 6, none⟩ (.int .i64 de2)).setCell ⟨w.heap.size, 7, none⟩ (.int .i64 dl2)).setCell ⟨w.heap.size, 8, none⟩ (.int .i64 ld2)).setCell ⟨w.heap.size, 9, none⟩ (.int .i64 sv2)).setCell ⟨w.heap.size + 1, 0, none⟩ (.int .i64 hx2)).setCell ⟨w.heap.size + 1, 1, none⟩ (.int .i64 hy2)).setCell ⟨w.heap.size + 1, 2, none⟩ (.int .i64 cp2)).setCell ⟨w.heap.size + 1, 3, none⟩ (.int .i64 st2)).setCell ⟨w.heap.size + 1, 4, none⟩ (.int .i64 en2)) (w.heap.size + 1) 29 #[.int .i64 hx2, .int .i64 hy2, .int .i64 cp2, .int .i64 st2, .int .i64 en2] := by simpa using (((((((((((((((hV.far (by omega) 0 _).far (by omega) 1 _).far (by omega) 2 _).far (by omega) 3 _).far (by omega) 4 _).far (by omega) 5 _).far (by omega) 6 _).far (by omega) 7 _).far (by omega) 8 _).far (by omega) 9 _).put 0 (.int .i64 hx2)).put 1 (.int .i64 hy2)).put 2 (.int .i64 cp2)).put 3 (.int .i64 st2)).put 4 (.int .i64 en2))
    replace hB : Below w.heap.size w (((((((((((((((w2.setCell ⟨w.heap.size, 0, none⟩ (.int .i64 fx2)).setCell ⟨w.heap.size, 1, none⟩ (.int .i64 fy2)).setCell ⟨w.heap.size, 2, none⟩ (.int .i64 tx2)).setCell ⟨w.heap.size, 3, none⟩ (.int .i64 ty2)).setCell ⟨w.heap.size, 4, none⟩ (.int .i64 pe2)).setCell ⟨w.heap.size, 5, none⟩ (.int .i64 pl2)).setCell ⟨w.heap.size, 6, none⟩ (.int .i64 de2)).setCell ⟨w.heap.size, 7, none⟩ (.int .i64 dl2)).setCell ⟨w.heap.size, 8, none⟩ (.int .i64 ld2)).setCell ⟨w.heap.size, 9, none⟩ (.int .i64 sv2)).setCell ⟨w.heap.size + 1, 0, none⟩ (.int .i64 hx2)).setCell ⟨w.heap.size + 1, 1, none⟩ (.int .i64 hy2)).setCell ⟨w.heap.size + 1, 2, none⟩ (.int .i64 cp2)).setCell ⟨w.heap.size + 1, 3, none⟩ (.int .i64 st2)).setCell ⟨w.heap.size + 1, 4, none⟩ (.int .i64 en2)) := (Below.setCell (Below.setCell (Below.setCell (Below.setCell (Below.setCell (Below.setCell (Below.setCell (Below.setCell (Below.setCell (Below.setCell (Below.setCell (Below.setCell (Below.setCell (Below.setCell (Below.setCell hB (by show w.heap.size ≤ w.heap.size; omega) _) (by show w.heap.size ≤ w.heap.size; omega) _) (by show w.heap.size ≤ w.heap.size; omega) _) (by show w.heap.size ≤ w.heap.size; omega) _) (by show w.heap.size ≤ w.heap.size; omega) _) (by show w.heap.size ≤ w.heap.size; omega) _) (by show w.heap.size ≤ w.heap.size; omega) _) (by show w.heap.size ≤ w.heap.size; omega) _) (by show w.heap.size ≤ w.heap.size; omega) _) (by show w.heap.size ≤ w.heap.size; omega) _) (by show w.heap.size ≤ w.heap.size + 1; omega) _) (by show w.heap.size ≤ w.heap.size + 1; omega) _) (by show w.heap.size ≤ w.heap.size + 1; omega) _) (by show w.heap.size ≤ w.heap.size + 1; omega) _) (by show w.heap.size ≤ w.heap.size + 1; omega) _)
    generalize (((((((((((((((w2.setCell ⟨w.heap.size, 0, none⟩ (.int .i64 fx2)).setCell ⟨w.heap.size, 1, none⟩ (.int .i64 fy2)).setCell ⟨w.heap.size, 2, none⟩ (.int .i64 tx2)).setCell ⟨w.heap.size, 3, none⟩ (.int .i64 ty2)).setCell ⟨w.heap.size, 4, none⟩ (.int .i64 pe2)).setCell ⟨w.heap.size, 5, none⟩ (.int .i64 pl2)).setCell ⟨w.heap.size, 6, none⟩ (.int .i64 de2)).setCell ⟨w.heap.size, 7, none⟩ (.int .i64 dl2)).setCell ⟨w.heap.size, 8, none⟩ (.int .i64 ld2)).setCell ⟨w.heap.size, 9, none⟩ (.int .i64 sv2)).setCell ⟨w.heap.size + 1, 0, none⟩ (.int .i64 hx2)).setCell ⟨w.heap.size + 1, 1, none⟩ (.int .i64 hy2)).setCell ⟨w.heap.size + 1, 2, none⟩ (.int .i64 cp2)).setCell ⟨w.heap.size + 1, 3, none⟩ (.int .i64 st2)).setCell ⟨w.heap.size + 1, 4, none⟩ (.int .i64 en2)) = w3 at *
    clear c0 c1 c2 c3 c4 c5 c6 c7 c8 c9 v0 v1 v2 v3 v4 hfp hfv
    have c0 := hP.cell 0
    have c1 := hP.cell 1
    have c2 := hP.cell 2
    have c3 := hP.cell 3
    have c4 := hP.cell 4
    have c5 := hP.cell 5
    have c6 := hP.cell 6
    have c7 := hP.cell 7
    have c8 := hP.cell 8
    have c9 := hP.cell 9
    simp at c0 c1 c2 c3 c4 c5 c6 c7 c8 c9
    have v0 := hV.cell 0
    have v1 := hV.cell 1
    have v2 := hV.cell 2
    have v3 := hV.cell 3
    have v4 := hV.cell 4
    simp at v0 v1 v2 v3 v4
    go_wp2_with fail
    refine (kT _).mono ?_
    rintro e w' ⟨rfl, hb1⟩
    replace hP := hP.keep hb1 hP.inside
    replace hV := hV.keep hb1 hV.inside
    replace hB := hB.trans (hb1.mono hB.size)
    clear hb1
    try clear c0 c1 c2 c3 c4 c5 c6 c7 c8 c9 v0 v1 v2 v3 v4
    have c0 := hP.cell 0
    have c1 := hP.cell 1
    have c2 := hP.cell 2
    have c3 := hP.cell 3
    have c4 := hP.cell 4
    have c5 := hP.cell 5
    have c6 := hP.cell 6
    have c7 := hP.cell 7
    have c8 := hP.cell 8
    have c9 := hP.cell 9
    simp at c0 c1 c2 c3 c4 c5 c6 c7 c8 c9
    have v0 := hV.cell 0
    have v1 := hV.cell 1
    have v2 := hV.cell 2
    have v3 := hV.cell 3
    have v4 := hV.cell 4
    simp at v0 v1 v2 v3 v4
    have hpi := hP.inside
    have hvi := hV.inside
    go_wp2_with fail
    refine (kA _).mono ?_
    rintro e w9 ⟨rfl, hb9⟩
    go_wp2
    go_ret
    exact ⟨Order.ret_bool (by simp), by
          have hs := hB.size
          have hs9 := hb9.size
          refine Below.trans (Below.alloc hB hs _) (hb9.mono (by simp; omega))⟩
  · obtain ⟨AV, hAV⟩ : ∃ A, aloneV fx2 fy2 tx2 ty2 pe2 pl2 de2 dl2 ld2 sv2 hx2 hy2 cp2 st2 en2 = A := ⟨_, rfl⟩
    obtain ⟨AB, hAB⟩ : ∃ A, aloneB fx2 fy2 tx2 ty2 pe2 pl2 de2 dl2 ld2 sv2 hx2 hy2 cp2 st2 en2 = A := ⟨_, rfl⟩
    rw [hAV, hAB] at kA
    rw [hT] at kT
    simp only [orNil_t] at kT
    have z1 := tight_again hT
    have z2 := tight_alone hx2 hy2 cp2 st2 en2 hT
    have z3 := tight_chk hT
    have z4 := tight_least hT
    have z5 := (tightB_iff fx2 fy2 tx2 ty2 pe2 pl2 de2 dl2 ld2 sv2).1 hT
    have z6 := (chk_iff fx2 fy2 tx2 ty2 pe2 pl2 de2 dl2 ld2 sv2).1 z5.1
    have z7 : tightL fx2 fy2 tx2 ty2 pe2 pl2 de2 dl2 ld2 sv2 ≤ pl2 ∧ de2 ≤ tightE fx2 fy2 tx2 ty2 pe2 pl2 de2 dl2 ld2 sv2 := by unfold tightL tightE; omega
    have z8 := apV_bd (fx := fx2) (fy := fy2) (tx := tx2) (ty := ty2) (pe := pe2) (pl := pl2) (de := de2) (dl := dl2) (ld := ld2) z6.2.2.2
    have z9 : pe2 ≤ tightL fx2 fy2 tx2 ty2 pe2 pl2 de2 dl2 ld2 sv2 := by have h1 := (okB_iff _ _).1 z6.2.1.1; have h2 := z5.2; unfold tightL; omega
    obtain ⟨L, hL⟩ : ∃ A, tightL fx2 fy2 tx2 ty2 pe2 pl2 de2 dl2 ld2 sv2 = A := ⟨_, rfl⟩
    obtain ⟨E, hE⟩ : ∃ A, tightE fx2 fy2 tx2 ty2 pe2 pl2 de2 dl2 ld2 sv2 = A := ⟨_, rfl⟩
    rw [hL, hE] at kT z1 z2 z3 z4 z7
    rw [hL] at z9
    rw [hAV, hAB] at z2
    have kT2 := fun w => Tight_any fx2 fy2 tx2 ty2 pe2 L E dl2 ld2 sv2 w
    rw [z1.1, z1.2.1, z1.2.2] at kT2
    simp only [orNil_t] at kT2
    have kA2 := fun w => Alone_any fx2 fy2 tx2 ty2 pe2 L E dl2 ld2 sv2 hx2 hy2 cp2 st2 en2 w
    rw [z2.1, z2.2] at kA2
    have kC := fun w => Check_any fx2 fy2 tx2 ty2 pe2 L E dl2 ld2 sv2 w
    rw [z3] at kC
    have kL := fun w => Least_any fx2 fy2 tx2 ty2 pe2 L E dl2 ld2 sv2 w
    have y1 : leastV fx2 fy2 tx2 ty2 pe2 L E dl2 ld2 sv2 = apV fx2 fy2 tx2 ty2 pe2 pl2 de2 dl2 ld2 sv2 + sv2 := by unfold leastV; rw [z3]; rfl
    obtain ⟨M, hM⟩ : ∃ M, leastV fx2 fy2 tx2 ty2 pe2 L E dl2 ld2 sv2 = M := ⟨_, rfl⟩
    rw [hM] at kL z4 y1
    have o1 := (okB_iff _ _).1 z6.2.1.1
    obtain ⟨o11, o12, o13⟩ := o1
    obtain ⟨_, _, _, s1, s2⟩ := z6
    obtain ⟨z71, z72⟩ := z7
    obtain ⟨z81, z82⟩ := z8
    have y2 : 0 ≤ M ∧ M ≤ 5000 := by omega
    obtain ⟨y21, y22⟩ := y2
    clear z1 z2 z3 z5 y1 hM hL hE hT hAV hAB z81 z82
    go_enter Try.func5, Try.ntmps5
    go_wp2_with fail
    generalize ((w.alloc (.cells #[.int .i64 fx, .int .i64 fy, .int .i64 tx, .int .i64 ty, .int .i64 pe, .int .i64 pl, .int .i64 de, .int .i64 dl, .int .i64 ld, .int .i64 sv] 27)).alloc (.cells #[.int .i64 hx, .int .i64 hy, .int .i64 cp, .int .i64 st, .int .i64 en] 29)) = w0 at *
    refine (works_any _).mono ?_
    rintro e w1 ⟨rfl, hb1⟩
    replace hP := hP.keep hb1 hP.inside
    replace hV := hV.keep hb1 hV.inside
    replace hB := hB.trans (hb1.mono hB.size)
    clear hb1
    have c0 := hP.cell 0
    have c1 := hP.cell 1
    have c2 := hP.cell 2
    have c3 := hP.cell 3
    have c4 := hP.cell 4
    have c5 := hP.cell 5
    have c6 := hP.cell 6
    have c7 := hP.cell 7
    have c8 := hP.cell 8
    have c9 := hP.cell 9
    simp at c0 c1 c2 c3 c4 c5 c6 c7 c8 c9
    have v0 := hV.cell 0
    have v1 := hV.cell 1
    have v2 := hV.cell 2
    have v3 := hV.cell 3
    have v4 := hV.cell 4
    simp at v0 v1 v2 v3 v4
    go_wp2_with fail
    have kc0 := cell_regrown c0
    have kc1 := cell_regrown c1
    have kc2 := cell_regrown c2
    have kc3 := cell_regrown c3
    have kc4 := cell_regrown c4
    have kc5 := cell_regrown c5
    have kc6 := cell_regrown c6
    have kc7 := cell_regrown c7
    have kc8 := cell_regrown c8
    have kc9 := cell_regrown c9
    have kv0 := cell_regrown v0
    have kv1 := cell_regrown v1
    have kv2 := cell_regrown v2
    have kv3 := cell_regrown v3
    have kv4 := cell_regrown v4
    have kR := fun d os => Calls.regrown_of (cR (grow (redrawn w1 d) os))
    have kV := fun d os => Calls.regrown_of (cV (grow (redrawn w1 d) os))
    refine wp_region_below_tail 6 (by kernel_rfl) (by kernel_rfl) (by kernel_rfl) ?_
    simp only [List.take_succ_cons, List.take_zero, List.drop_succ_cons, List.drop_zero]
    repeat (go_big_quiet_step (first | with_reducible exact kR _ _ | with_reducible exact kV _ _))
    refine wpQuiet_nil ?_
    intro _ hw'
    obtain ⟨⟨dq, osq⟩, hw''⟩ := hw'
    subst hw''
    replace hB := hB.trans ((below_regrown w1 dq osq).mono hB.size)
    replace hP := hP.keep (below_regrown w1 dq osq) hP.inside
    replace hV := hV.keep (below_regrown w1 dq osq) hV.inside
    generalize grow (redrawn w1 dq) osq = w2 at *
    clear kR kV kc0 kc1 kc2 kc3 kc4 kc5 kc6 kc7 kc8 kc9 kv0 kv1 kv2 kv3 kv4 c0 c1 c2 c3 c4 c5 c6 c7 c8 c9 v0 v1 v2 v3 v4
    have c0 := hP.cell 0
    have c1 := hP.cell 1
    have c2 := hP.cell 2
    have c3 := hP.cell 3
    have c4 := hP.cell 4
    have c5 := hP.cell 5
    have c6 := hP.cell 6
    have c7 := hP.cell 7
    have c8 := hP.cell 8
    have c9 := hP.cell 9
    simp at c0 c1 c2 c3 c4 c5 c6 c7 c8 c9
    have v0 := hV.cell 0
    have v1 := hV.cell 1
    have v2 := hV.cell 2
    have v3 := hV.cell 3
    have v4 := hV.cell 4
    simp at v0 v1 v2 v3 v4
    have hfp := hP.free
    have hfv := hV.free
    go_wp2_with fail
    replace hP : At (((((((((((((((w2.setCell ⟨w.heap.size, 0, none⟩ (.int .i64 fx2)).setCell ⟨w.heap.size, 1, none⟩ (.int .i64 fy2)).setCell ⟨w.heap.size, 2, none⟩ (.int .i64 tx2)).setCell ⟨w.heap.size, 3, none⟩ (.int .i64 ty2)).setCell ⟨w.heap.size, 4, none⟩ (.int .i64 pe2)).setCell ⟨w.heap.size, 5, none⟩ (.int .i64 pl2)).setCell ⟨w.heap.size, 6, none⟩ (.int .i64 de2)).setCell ⟨w.heap.size, 7, none⟩ (.int .i64 dl2)).setCell ⟨w.heap.size, 8, none⟩ (.int .i64 ld2)).setCell ⟨w.heap.size, 9, none⟩ (.int .i64 sv2)).setCell ⟨w.heap.size + 1, 0, none⟩ (.int .i64 hx2)).setCell ⟨w.heap.size + 1, 1, none⟩ (.int .i64 hy2)).setCell ⟨w.heap.size + 1, 2, none⟩ (.int .i64 cp2)).setCell ⟨w.heap.size + 1, 3, none⟩ (.int .i64 st2)).setCell ⟨w.heap.size + 1, 4, none⟩ (.int .i64 en2)) w.heap.size 27 #[.int .i64 fx2, .int .i64 fy2, .int .i64 tx2, .int .i64 ty2, .int .i64 pe2, .int .i64 pl2, .int .i64 de2, .int .i64 dl2, .int .i64 ld2, .int .i64 sv2] := ((((((put10 hP).far (by omega) 0 _).far (by omega) 1 _).far (by omega) 2 _).far (by omega) 3 _).far (by omega) 4 _)
    replace hV : At (((((((((((((((w2.setCell ⟨w.heap.size, 0, none⟩ (.int .i64 fx2)).setCell ⟨w.heap.size, 1, none⟩ (.int .i64 fy2)).setCell ⟨w.heap.size, 2, none⟩ (.int .i64 tx2)).setCell ⟨w.heap.size, 3, none⟩ (.int .i64 ty2)).setCell ⟨w.heap.size, 4, none⟩ (.int .i64 pe2)).setCell ⟨w.heap.size, 5, none⟩ (.int .i64 pl2)).setCell ⟨w.heap.size, 6, none⟩ (.int .i64 de2)).setCell ⟨w.heap.size, 7, none⟩ (.int .i64 dl2)).setCell ⟨w.heap.size, 8, none⟩ (.int .i64 ld2)).setCell ⟨w.heap.size, 9, none⟩ (.int .i64 sv2)).setCell ⟨w.heap.size + 1, 0, none⟩ (.int .i64 hx2)).setCell ⟨w.heap.size + 1, 1, none⟩ (.int .i64 hy2)).setCell ⟨w.heap.size + 1, 2, none⟩ (.int .i64 cp2)).setCell ⟨w.heap.size + 1, 3, none⟩ (.int .i64 st2)).setCell ⟨w.heap.size + 1, 4, none⟩ (.int .i64 en2)) (w.heap.size + 1) 29 #[.int .i64 hx2, .int .i64 hy2, .int .i64 cp2, .int .i64 st2, .int .i64 en2] := by simpa using (((((((((((((((hV.far (by omega) 0 _).far (by omega) 1 _).far (by omega) 2 _).far (by omega) 3 _).far (by omega) 4 _).far (by omega) 5 _).far (by omega) 6 _).far (by omega) 7 _).far (by omega) 8 _).far (by omega) 9 _).put 0 (.int .i64 hx2)).put 1 (.int .i64 hy2)).put 2 (.int .i64 cp2)).put 3 (.int .i64 st2)).put 4 (.int .i64 en2))
    replace hB : Below w.heap.size w (((((((((((((((w2.setCell ⟨w.heap.size, 0, none⟩ (.int .i64 fx2)).setCell ⟨w.heap.size, 1, none⟩ (.int .i64 fy2)).setCell ⟨w.heap.size, 2, none⟩ (.int .i64 tx2)).setCell ⟨w.heap.size, 3, none⟩ (.int .i64 ty2)).setCell ⟨w.heap.size, 4, none⟩ (.int .i64 pe2)).setCell ⟨w.heap.size, 5, none⟩ (.int .i64 pl2)).setCell ⟨w.heap.size, 6, none⟩ (.int .i64 de2)).setCell ⟨w.heap.size, 7, none⟩ (.int .i64 dl2)).setCell ⟨w.heap.size, 8, none⟩ (.int .i64 ld2)).setCell ⟨w.heap.size, 9, none⟩ (.int .i64 sv2)).setCell ⟨w.heap.size + 1, 0, none⟩ (.int .i64 hx2)).setCell ⟨w.heap.size + 1, 1, none⟩ (.int .i64 hy2)).setCell ⟨w.heap.size + 1, 2, none⟩ (.int .i64 cp2)).setCell ⟨w.heap.size + 1, 3, none⟩ (.int .i64 st2)).setCell ⟨w.heap.size + 1, 4, none⟩ (.int .i64 en2)) := (Below.setCell (Below.setCell (Below.setCell (Below.setCell (Below.setCell (Below.setCell (Below.setCell (Below.setCell (Below.setCell (Below.setCell (Below.setCell (Below.setCell (Below.setCell (Below.setCell (Below.setCell hB (by show w.heap.size ≤ w.heap.size; omega) _) (by show w.heap.size ≤ w.heap.size; omega) _) (by show w.heap.size ≤ w.heap.size; omega) _) (by show w.heap.size ≤ w.heap.size; omega) _) (by show w.heap.size ≤ w.heap.size; omega) _) (by show w.heap.size ≤ w.heap.size; omega) _) (by show w.heap.size ≤ w.heap.size; omega) _) (by show w.heap.size ≤ w.heap.size; omega) _) (by show w.heap.size ≤ w.heap.size; omega) _) (by show w.heap.size ≤ w.heap.size; omega) _) (by show w.heap.size ≤ w.heap.size + 1; omega) _) (by show w.heap.size ≤ w.heap.size + 1; omega) _) (by show w.heap.size ≤ w.heap.size + 1; omega) _) (by show w.heap.size ≤ w.heap.size + 1; omega) _) (by show w.heap.size ≤ w.heap.size + 1; omega) _)
    generalize (((((((((((((((w2.setCell ⟨w.heap.size, 0, none⟩ (.int .i64 fx2)).setCell ⟨w.heap.size, 1, none⟩ (.int .i64 fy2)).setCell ⟨w.heap.size, 2, none⟩ (.int .i64 tx2)).setCell ⟨w.heap.size, 3, none⟩ (.int .i64 ty2)).setCell ⟨w.heap.size, 4, none⟩ (.int .i64 pe2)).setCell ⟨w.heap.size, 5, none⟩ (.int .i64 pl2)).setCell ⟨w.heap.size, 6, none⟩ (.int .i64 de2)).setCell ⟨w.heap.size, 7, none⟩ (.int .i64 dl2)).setCell ⟨w.heap.size, 8, none⟩ (.int .i64 ld2)).setCell ⟨w.heap.size, 9, none⟩ (.int .i64 sv2)).setCell ⟨w.heap.size + 1, 0, none⟩ (.int .i64 hx2)).setCell ⟨w.heap.size + 1, 1, none⟩ (.int .i64 hy2)).setCell ⟨w.heap.size + 1, 2, none⟩ (.int .i64 cp2)).setCell ⟨w.heap.size + 1, 3, none⟩ (.int .i64 st2)).setCell ⟨w.heap.size + 1, 4, none⟩ (.int .i64 en2)) = w3 at *
    clear c0 c1 c2 c3 c4 c5 c6 c7 c8 c9 v0 v1 v2 v3 v4 hfp hfv
    have c0 := hP.cell 0
    have c1 := hP.cell 1
    have c2 := hP.cell 2
    have c3 := hP.cell 3
    have c4 := hP.cell 4
    have c5 := hP.cell 5
    have c6 := hP.cell 6
    have c7 := hP.cell 7
    have c8 := hP.cell 8
    have c9 := hP.cell 9
    simp at c0 c1 c2 c3 c4 c5 c6 c7 c8 c9
    have v0 := hV.cell 0
    have v1 := hV.cell 1
    have v2 := hV.cell 2
    have v3 := hV.cell 3
    have v4 := hV.cell 4
    simp at v0 v1 v2 v3 v4
    go_wp2_with fail
    refine (kT _).mono ?_
    rintro e w' ⟨rfl, hb1⟩
    replace hP := hP.keep hb1 hP.inside
    replace hV := hV.keep hb1 hV.inside
    replace hB := hB.trans (hb1.mono hB.size)
    clear hb1
    try clear c0 c1 c2 c3 c4 c5 c6 c7 c8 c9 v0 v1 v2 v3 v4
    have c0 := hP.cell 0
    have c1 := hP.cell 1
    have c2 := hP.cell 2
    have c3 := hP.cell 3
    have c4 := hP.cell 4
    have c5 := hP.cell 5
    have c6 := hP.cell 6
    have c7 := hP.cell 7
    have c8 := hP.cell 8
    have c9 := hP.cell 9
    simp at c0 c1 c2 c3 c4 c5 c6 c7 c8 c9
    have v0 := hV.cell 0
    have v1 := hV.cell 1
    have v2 := hV.cell 2
    have v3 := hV.cell 3
    have v4 := hV.cell 4
    simp at v0 v1 v2 v3 v4
    have hpi := hP.inside
    have hvi := hV.inside
    go_wp2_with fail
    have hTT : At (w'.alloc (.cells #[.int .i64 fx2, .int .i64 fy2, .int .i64 tx2, .int .i64 ty2, .int .i64 pe2, .int .i64 L, .int .i64 E, .int .i64 dl2, .int .i64 ld2, .int .i64 sv2] 27)) w'.heap.size 27 #[.int .i64 fx2, .int .i64 fy2, .int .i64 tx2, .int .i64 ty2, .int .i64 pe2, .int .i64 L, .int .i64 E, .int .i64 dl2, .int .i64 ld2, .int .i64 sv2] := At.new _ _ _
    replace hP := hP.alloc (.cells #[.int .i64 fx2, .int .i64 fy2, .int .i64 tx2, .int .i64 ty2, .int .i64 pe2, .int .i64 L, .int .i64 E, .int .i64 dl2, .int .i64 ld2, .int .i64 sv2] 27)
    replace hV := hV.alloc (.cells #[.int .i64 fx2, .int .i64 fy2, .int .i64 tx2, .int .i64 ty2, .int .i64 pe2, .int .i64 L, .int .i64 E, .int .i64 dl2, .int .i64 ld2, .int .i64 sv2] 27)
    replace hB := hB.alloc hB.size (.cells #[.int .i64 fx2, .int .i64 fy2, .int .i64 tx2, .int .i64 ty2, .int .i64 pe2, .int .i64 L, .int .i64 E, .int .i64 dl2, .int .i64 ld2, .int .i64 sv2] 27)
    generalize (w'.alloc (.cells #[.int .i64 fx2, .int .i64 fy2, .int .i64 tx2, .int .i64 ty2, .int .i64 pe2, .int .i64 L, .int .i64 E, .int .i64 dl2, .int .i64 ld2, .int .i64 sv2] 27)) = w4 at *
    generalize w'.heap.size = g at *
    refine (kA _).mono ?_
    rintro e w' ⟨rfl, hb1⟩
    replace hP := hP.keep hb1 hP.inside
    replace hV := hV.keep hb1 hV.inside
    replace hTT := hTT.keep hb1 hTT.inside
    replace hB := hB.trans (hb1.mono hB.size)
    clear hb1
    try clear c0 c1 c2 c3 c4 c5 c6 c7 c8 c9 v0 v1 v2 v3 v4 t0 t1 t2 t3 t4 t5 t6 t7 t8 t9
    have c0 := hP.cell 0
    have c1 := hP.cell 1
    have c2 := hP.cell 2
    have c3 := hP.cell 3
    have c4 := hP.cell 4
    have c5 := hP.cell 5
    have c6 := hP.cell 6
    have c7 := hP.cell 7
    have c8 := hP.cell 8
    have c9 := hP.cell 9
    simp at c0 c1 c2 c3 c4 c5 c6 c7 c8 c9
    have v0 := hV.cell 0
    have v1 := hV.cell 1
    have v2 := hV.cell 2
    have v3 := hV.cell 3
    have v4 := hV.cell 4
    simp at v0 v1 v2 v3 v4
    have t0 := hTT.cell 0
    have t1 := hTT.cell 1
    have t2 := hTT.cell 2
    have t3 := hTT.cell 3
    have t4 := hTT.cell 4
    have t5 := hTT.cell 5
    have t6 := hTT.cell 6
    have t7 := hTT.cell 7
    have t8 := hTT.cell 8
    have t9 := hTT.cell 9
    simp at t0 t1 t2 t3 t4 t5 t6 t7 t8 t9
    go_wp2_with fail
    refine (kT2 _).mono ?_
    rintro e w' ⟨rfl, hb1⟩
    replace hP := hP.keep hb1 hP.inside
    replace hV := hV.keep hb1 hV.inside
    replace hTT := hTT.keep hb1 hTT.inside
    replace hB := hB.trans (hb1.mono hB.size)
    clear hb1
    try clear c0 c1 c2 c3 c4 c5 c6 c7 c8 c9 v0 v1 v2 v3 v4 t0 t1 t2 t3 t4 t5 t6 t7 t8 t9
    have c0 := hP.cell 0
    have c1 := hP.cell 1
    have c2 := hP.cell 2
    have c3 := hP.cell 3
    have c4 := hP.cell 4
    have c5 := hP.cell 5
    have c6 := hP.cell 6
    have c7 := hP.cell 7
    have c8 := hP.cell 8
    have c9 := hP.cell 9
    simp at c0 c1 c2 c3 c4 c5 c6 c7 c8 c9
    have v0 := hV.cell 0
    have v1 := hV.cell 1
    have v2 := hV.cell 2
    have v3 := hV.cell 3
    have v4 := hV.cell 4
    simp at v0 v1 v2 v3 v4
    have t0 := hTT.cell 0
    have t1 := hTT.cell 1
    have t2 := hTT.cell 2
    have t3 := hTT.cell 3
    have t4 := hTT.cell 4
    have t5 := hTT.cell 5
    have t6 := hTT.cell 6
    have t7 := hTT.cell 7
    have t8 := hTT.cell 8
    have t9 := hTT.cell 9
    simp at t0 t1 t2 t3 t4 t5 t6 t7 t8 t9
    have hpi2 := hP.inside
    have hvi2 := hV.inside
    have hti2 := hTT.inside
    go_wp2_with fail
    have hAG : At (w'.alloc (.cells #[.int .i64 fx2, .int .i64 fy2, .int .i64 tx2, .int .i64 ty2, .int .i64 pe2, .int .i64 L, .int .i64 E, .int .i64 dl2, .int .i64 ld2, .int .i64 sv2] 27)) w'.heap.size 27 #[.int .i64 fx2, .int .i64 fy2, .int .i64 tx2, .int .i64 ty2, .int .i64 pe2, .int .i64 L, .int .i64 E, .int .i64 dl2, .int .i64 ld2, .int .i64 sv2] := At.new _ _ _
    replace hP := hP.alloc (.cells #[.int .i64 fx2, .int .i64 fy2, .int .i64 tx2, .int .i64 ty2, .int .i64 pe2, .int .i64 L, .int .i64 E, .int .i64 dl2, .int .i64 ld2, .int .i64 sv2] 27)
    replace hV := hV.alloc (.cells #[.int .i64 fx2, .int .i64 fy2, .int .i64 tx2, .int .i64 ty2, .int .i64 pe2, .int .i64 L, .int .i64 E, .int .i64 dl2, .int .i64 ld2, .int .i64 sv2] 27)
    replace hTT := hTT.alloc (.cells #[.int .i64 fx2, .int .i64 fy2, .int .i64 tx2, .int .i64 ty2, .int .i64 pe2, .int .i64 L, .int .i64 E, .int .i64 dl2, .int .i64 ld2, .int .i64 sv2] 27)
    replace hB := hB.alloc hB.size (.cells #[.int .i64 fx2, .int .i64 fy2, .int .i64 tx2, .int .i64 ty2, .int .i64 pe2, .int .i64 L, .int .i64 E, .int .i64 dl2, .int .i64 ld2, .int .i64 sv2] 27)
    generalize (w'.alloc (.cells #[.int .i64 fx2, .int .i64 fy2, .int .i64 tx2, .int .i64 ty2, .int .i64 pe2, .int .i64 L, .int .i64 E, .int .i64 dl2, .int .i64 ld2, .int .i64 sv2] 27)) = w6 at *
    generalize w'.heap.size = g2 at *
    refine (kA2 _).mono ?_
    rintro e w' ⟨rfl, hb1⟩
    replace hP := hP.keep hb1 hP.inside
    replace hV := hV.keep hb1 hV.inside
    replace hTT := hTT.keep hb1 hTT.inside
    replace hAG := hAG.keep hb1 hAG.inside
    replace hB := hB.trans (hb1.mono hB.size)
    clear hb1
    try clear c0 c1 c2 c3 c4 c5 c6 c7 c8 c9 v0 v1 v2 v3 v4 t0 t1 t2 t3 t4 t5 t6 t7 t8 t9 r0 r1 r2 r3 r4 r5 r6 r7 r8 r9
    have c0 := hP.cell 0
    have c1 := hP.cell 1
    have c2 := hP.cell 2
    have c3 := hP.cell 3
    have c4 := hP.cell 4
    have c5 := hP.cell 5
    have c6 := hP.cell 6
    have c7 := hP.cell 7
    have c8 := hP.cell 8
    have c9 := hP.cell 9
    simp at c0 c1 c2 c3 c4 c5 c6 c7 c8 c9
    have v0 := hV.cell 0
    have v1 := hV.cell 1
    have v2 := hV.cell 2
    have v3 := hV.cell 3
    have v4 := hV.cell 4
    simp at v0 v1 v2 v3 v4
    have t0 := hTT.cell 0
    have t1 := hTT.cell 1
    have t2 := hTT.cell 2
    have t3 := hTT.cell 3
    have t4 := hTT.cell 4
    have t5 := hTT.cell 5
    have t6 := hTT.cell 6
    have t7 := hTT.cell 7
    have t8 := hTT.cell 8
    have t9 := hTT.cell 9
    simp at t0 t1 t2 t3 t4 t5 t6 t7 t8 t9
    have r0 := hAG.cell 0
    have r1 := hAG.cell 1
    have r2 := hAG.cell 2
    have r3 := hAG.cell 3
    have r4 := hAG.cell 4
    have r5 := hAG.cell 5
    have r6 := hAG.cell 6
    have r7 := hAG.cell 7
    have r8 := hAG.cell 8
    have r9 := hAG.cell 9
    simp at r0 r1 r2 r3 r4 r5 r6 r7 r8 r9
    clear cR cV kA kT kT2 kA2
    go_wp2_with fail
    have d1 : decide (L ≤ pl2) = true := by simpa using z71
    have d2 : decide (E ≥ de2) = true := by simpa using z72
    have d2' : decide (de2 ≤ E) = true := by simpa using z72
    have d3 : decide (L + M - sv2 ≤ dl2) = true := by simpa using z4
    generalize w' = w7 at *
    have kc0 := cell_regrown c0
    have kc1 := cell_regrown c1
    have kc2 := cell_regrown c2
    have kc3 := cell_regrown c3
    have kc4 := cell_regrown c4
    have kc5 := cell_regrown c5
    have kc6 := cell_regrown c6
    have kc7 := cell_regrown c7
    have kc8 := cell_regrown c8
    have kc9 := cell_regrown c9
    have kt0 := cell_regrown t0
    have kt1 := cell_regrown t1
    have kt2 := cell_regrown t2
    have kt3 := cell_regrown t3
    have kt4 := cell_regrown t4
    have kt5 := cell_regrown t5
    have kt6 := cell_regrown t6
    have kt7 := cell_regrown t7
    have kt8 := cell_regrown t8
    have kt9 := cell_regrown t9
    have kr0 := cell_regrown r0
    have kr1 := cell_regrown r1
    have kr2 := cell_regrown r2
    have kr3 := cell_regrown r3
    have kr4 := cell_regrown r4
    have kr5 := cell_regrown r5
    have kr6 := cell_regrown r6
    have kr7 := cell_regrown r7
    have kr8 := cell_regrown r8
    have kr9 := cell_regrown r9
    have kkC := fun d os => Calls.regrown_of (kC (grow (redrawn w7 d) os))
    have kkL := fun d os => Calls.regrown_of (kL (grow (redrawn w7 d) os))
    clear kC kL
    simp only [List.append_eq, List.cons_append, List.nil_append]
    refine wp_region_quiet_below (by kernel_rfl) (by kernel_rfl) ?_
    repeat (go_big_quiet_step (first | with_reducible exact kkC _ _ | with_reducible exact kkL _ _))
    refine wpQuiet_nil ?_
    intro _ hw'
    obtain ⟨⟨dq, osq⟩, hw''⟩ := hw'
    subst hw''
    replace hB := hB.trans ((below_regrown w7 dq osq).mono hB.size)
    generalize grow (redrawn w7 dq) osq = w8 at *
    clear kkC kkL c0 c1 c2 c3 c4 c5 c6 c7 c8 c9 kc0 kc1 kc2 kc3 kc4 kc5 kc6 kc7 kc8 kc9 kt0 kt1 kt2 kt3 kt4 kt5 kt6 kt7 kt8 kt9 kr0 kr1 kr2 kr3 kr4 kr5 kr6 kr7 kr8 kr9
    go_wp2
    go_ret
    exact ⟨Order.ret_bool (by simp), hB⟩

set_option maxRecDepth 100000 in
theorem lifted (os : Os) (started : os.Started) (H : Type) (enc : TypeId × Value → H) :
    ReturnsInHanded {} Try.checked os 5 .any (Rows.orderTightSpec.pre6 enc Try.prog Try.f5 Rows.orderTightRow.domain false) (Rows.orderTightSpec.post enc Try.prog Try.f5 false true false false) := by
  refine returnsInHanded_of_change (C := Try.checked) own started (by kernel_rfl) Try.func5
    (ChangeSpec.witness6 (enc := enc) (C := Try.checked) false ⟨#[], #[.agg #[.int .i64 0, .int .i64 0, .int .i64 0, .int .i64 0, .int .i64 0, .int .i64 0, .int .i64 0, .int .i64 0, .int .i64 0, .int .i64 0], .agg #[.int .i64 0, .int .i64 0, .int .i64 0, .int .i64 0, .int .i64 0], .bool false], []⟩ 8 (by kernel_rfl) (by kernel_rfl) (by kernel_rfl) (by kernel_rfl)) ?_
  intro W base args ds gs before hval0 hW hcnd _
  have hval : ∀ (j : Nat) t v, Try.f5.params[j]? = some t → args[j]? = some v → Value.okWide Try.prog W .any base t v := hval0
  have hW' := hW
  obtain ⟨p, q, hA0, hV, rfl, hfz, hnd⟩ := hW
  have hA : DataW.TrodAll enc Try.prog W 0 (fun _ => true) true Try.f5.params.toList args.toList ds p := hA0
  rw [Try.params5] at hA hval
  obtain ⟨v0, vs0, d0, ds0, p0, q0, hargs, rfl, rfl, h0, r0⟩ := trodAll_cons hA
  obtain ⟨v1, vs1, d1, ds1, p1, q1, rfl, rfl, rfl, h1, r1⟩ := trodAll_cons r0
  obtain ⟨v2, vs2, d2, ds2, p2, q2, rfl, rfl, rfl, h2, r2⟩ := trodAll_cons r1
  obtain ⟨rfl, rfl, rfl⟩ := trodAll_nil r2
  obtain rfl : args = #[v0, v1, v2] := by cases args; simp_all
  obtain ⟨rfl, rfl⟩ := trodVars_none hV
  obtain ⟨fx, fy, tx, ty, pe, pl, de, dl, ld, sv, rfl, _⟩ := Order.openRequest (hval 0 27 v0 rfl rfl) h0
  obtain ⟨hx, hy, cp, st, en, rfl, wen⟩ := Order.openVehicle (hval 1 29 v1 rfl rfl) h1
  obtain ⟨b, rfl, rfl, rfl⟩ := open_bool Try.underlying4 (hval 2 4 v2 rfl rfl) h2
  exact (walk fx fy tx ty pe pl de dl ld sv hx hy cp st en b W).mono fun e W' ⟨he, hb⟩ => ⟨_, he, Close.law_post laidOut (by kernel_rfl) rfl (by kernel_rfl) Try.underlying4 hW' rfl hb⟩

theorem over : Rows.orderTightRow.holds Try.pinned (OpenSpec.ofChange Rows.orderTightSpec) :=
  OpenClaim.holds_of_wide 5 Try.f5 rfl rfl rfl rfl rfl rfl rfl ⟨rfl, rfl, rfl, rfl, rfl⟩ rfl rfl rfl rfl rfl (by kernel_rfl) Try.func5 (by kernel_rfl)
    (of_decide_eq_true (by kernel_rfl)) (by unfold Func.isWrapper; first | (rw [if_pos (by decide +kernel)]; kernel_rfl) | (rw [if_neg (by decide +kernel)]; exact ⟨rfl, rfl⟩))
    (fun os started H enc _ => lifted os started H enc)

theorem proved : Rows.OrderTightSaid := over
#print axioms proved

end Go.Proofs.Ytcdgfjfomiokmaa.orderTight
