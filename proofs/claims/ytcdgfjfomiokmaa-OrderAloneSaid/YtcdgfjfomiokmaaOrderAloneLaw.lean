/-
  For all requests and vehicles: whether one serves a request alone, and when it is home, how long it takes at least, and what is tight, is as the document says. Conditions: none but that the arguments are such values.
-/
import Derived.Test.YtcdgfjfomiokmaaOrderWorks
import Derived.Test.YtcdgfjfomiokmaaOrderOpen
namespace Go.Proofs.Ytcdgfjfomiokmaa.orderAlone
open Go.ChangeShapes Go.WideShapes Go.ChangeAt Go.RowKit Go.Sort
open Go.Proofs.Ytcdgfjfomiokmaa.Mem Go.Proofs.Ytcdgfjfomiokmaa.Order Go.Proofs.Ytcdgfjfomiokmaa.Tail Go.Proofs.Ytcdgfjfomiokmaa.Window Go.Proofs.Ytcdgfjfomiokmaa.Place
set_option linter.unusedVariables false

theorem tights (fx fy tx ty pe pl de dl ld sv : Int) : ∃ (a0 a1 a2 a3 a4 a5 a6 a7 a8 a9 : Int) (tb : Bool), (∀ w, Calls Try.prog 17 #[.agg #[.int .i64 fx, .int .i64 fy, .int .i64 tx, .int .i64 ty, .int .i64 pe, .int .i64 pl, .int .i64 de, .int .i64 dl, .int .i64 ld, .int .i64 sv]] w fun r w' => r = .returned (.tuple #[.agg #[.int .i64 a0, .int .i64 a1, .int .i64 a2, .int .i64 a3, .int .i64 a4, .int .i64 a5, .int .i64 a6, .int .i64 a7, .int .i64 a8, .int .i64 a9], .bool tb]) ∧ Below w.heap.size w w') ∧
    (∀ w, Calls Try.prog 18 #[.agg #[.int .i64 fx, .int .i64 fy, .int .i64 tx, .int .i64 ty, .int .i64 pe, .int .i64 pl, .int .i64 de, .int .i64 dl, .int .i64 ld, .int .i64 sv]] w fun r w' => r = .returned (.tuple #[.agg #[.int .i64 a0, .int .i64 a1, .int .i64 a2, .int .i64 a3, .int .i64 a4, .int .i64 a5, .int .i64 a6, .int .i64 a7, .int .i64 a8, .int .i64 a9], .bool tb]) ∧ Below w.heap.size w w') :=
  ⟨_, _, _, _, _, _, _, _, _, _, _, fun w => Tight_any fx fy tx ty pe pl de dl ld sv w, fun w => refTight_any fx fy tx ty pe pl de dl ld sv w⟩
theorem alones (fx fy tx ty pe pl de dl ld sv hx hy cp st en : Int) : ∃ (av : Int) (ab : Bool), (∀ w, Calls Try.prog 15 #[.agg #[.int .i64 fx, .int .i64 fy, .int .i64 tx, .int .i64 ty, .int .i64 pe, .int .i64 pl, .int .i64 de, .int .i64 dl, .int .i64 ld, .int .i64 sv], .agg #[.int .i64 hx, .int .i64 hy, .int .i64 cp, .int .i64 st, .int .i64 en]] w fun r w' => r = .returned (.tuple #[.int .i64 av, .bool ab]) ∧ Below w.heap.size w w') ∧
    (∀ w, Calls Try.prog 16 #[.agg #[.int .i64 fx, .int .i64 fy, .int .i64 tx, .int .i64 ty, .int .i64 pe, .int .i64 pl, .int .i64 de, .int .i64 dl, .int .i64 ld, .int .i64 sv], .agg #[.int .i64 hx, .int .i64 hy, .int .i64 cp, .int .i64 st, .int .i64 en]] w fun r w' => r = .returned (.tuple #[.int .i64 av, .bool ab]) ∧ Below w.heap.size w w') :=
  ⟨_, _, fun w => Alone_any fx fy tx ty pe pl de dl ld sv hx hy cp st en w, fun w => refAlone_any fx fy tx ty pe pl de dl ld sv hx hy cp st en w⟩
theorem leasts (fx fy tx ty pe pl de dl ld sv : Int) : ∃ (lv : Int), (∀ w, Calls Try.prog 19 #[.agg #[.int .i64 fx, .int .i64 fy, .int .i64 tx, .int .i64 ty, .int .i64 pe, .int .i64 pl, .int .i64 de, .int .i64 dl, .int .i64 ld, .int .i64 sv]] w fun r w' => r = .returned (.int .i64 lv) ∧ Below w.heap.size w w') ∧
    (∀ w, Calls Try.prog 20 #[.agg #[.int .i64 fx, .int .i64 fy, .int .i64 tx, .int .i64 ty, .int .i64 pe, .int .i64 pl, .int .i64 de, .int .i64 dl, .int .i64 ld, .int .i64 sv]] w fun r w' => r = .returned (.int .i64 lv) ∧ Below w.heap.size w w') :=
  ⟨_, fun w => Least_any fx fy tx ty pe pl de dl ld sv w, fun w => refLeast_any fx fy tx ty pe pl de dl ld sv w⟩

set_option maxRecDepth 100000 in
set_option maxHeartbeats 40000000 in
theorem walk (fx fy tx ty pe pl de dl ld sv hx hy cp st en : Int) (w : World) :
    Calls Try.prog 4 #[.agg #[.int .i64 fx, .int .i64 fy, .int .i64 tx, .int .i64 ty, .int .i64 pe, .int .i64 pl, .int .i64 de, .int .i64 dl, .int .i64 ld, .int .i64 sv], .agg #[.int .i64 hx, .int .i64 hy, .int .i64 cp, .int .i64 st, .int .i64 en]] w fun r w' => r = .returned (.bool true) ∧ Below w.heap.size w w' := by
  obtain ⟨fx2, fy2, tx2, ty2, pe2, pl2, de2, dl2, ld2, sv2, cR⟩ := right_f fx fy tx ty pe pl de dl ld sv
  obtain ⟨hx2, hy2, cp2, st2, en2, cV⟩ := vehicle_f hx hy cp st en
  obtain ⟨fx3, fy3, tx3, ty3, pe3, pl3, de3, dl3, ld3, sv3, cR3⟩ := right_t fx fy tx ty pe pl de dl ld sv
  obtain ⟨hx3, hy3, cp3, st3, en3, cV3, _⟩ := vehicle_t hx hy cp st en
  have hP : At ((w.alloc (.cells #[.int .i64 fx, .int .i64 fy, .int .i64 tx, .int .i64 ty, .int .i64 pe, .int .i64 pl, .int .i64 de, .int .i64 dl, .int .i64 ld, .int .i64 sv] 27)).alloc (.cells #[.int .i64 hx, .int .i64 hy, .int .i64 cp, .int .i64 st, .int .i64 en] 29)) w.heap.size 27 #[.int .i64 fx, .int .i64 fy, .int .i64 tx, .int .i64 ty, .int .i64 pe, .int .i64 pl, .int .i64 de, .int .i64 dl, .int .i64 ld, .int .i64 sv] := (At.new w _ _).alloc _
  have hV : At ((w.alloc (.cells #[.int .i64 fx, .int .i64 fy, .int .i64 tx, .int .i64 ty, .int .i64 pe, .int .i64 pl, .int .i64 de, .int .i64 dl, .int .i64 ld, .int .i64 sv] 27)).alloc (.cells #[.int .i64 hx, .int .i64 hy, .int .i64 cp, .int .i64 st, .int .i64 en] 29)) (w.heap.size + 1) 29 #[.int .i64 hx, .int .i64 hy, .int .i64 cp, .int .i64 st, .int .i64 en] := At.new_ _ _ _ (by simp)
  have hB : Below w.heap.size w ((w.alloc (.cells #[.int .i64 fx, .int .i64 fy, .int .i64 tx, .int .i64 ty, .int .i64 pe, .int .i64 pl, .int .i64 de, .int .i64 dl, .int .i64 ld, .int .i64 sv] 27)).alloc (.cells #[.int .i64 hx, .int .i64 hy, .int .i64 cp, .int .i64 st, .int .i64 en] 29)) := ((Below.refl _ _).alloc (Nat.le_refl _) _).alloc (by simp) _
  go_enter Try.func4, Try.ntmps4
  go_wp2_with fail
  generalize ((w.alloc (.cells #[.int .i64 fx, .int .i64 fy, .int .i64 tx, .int .i64 ty, .int .i64 pe, .int .i64 pl, .int .i64 de, .int .i64 dl, .int .i64 ld, .int .i64 sv] 27)).alloc (.cells #[.int .i64 hx, .int .i64 hy, .int .i64 cp, .int .i64 st, .int .i64 en] 29)) = u0 at *
  have c0 := hP.cell 0
  have c1 := hP.cell 1
  have c2 := hP.cell 2
  have c3 := hP.cell 3
  have c4 := hP.cell 4
  have c5 := hP.cell 5
  have c6 := hP.cell 6
  have c7 := hP.cell 7
  have c8 := hP.cell 8
  have c9 := hP.cell 9
  simp at c0 c1 c2 c3 c4 c5 c6 c7 c8 c9
  have kc0 := cell_regrown c0
  have kc1 := cell_regrown c1
  have kc2 := cell_regrown c2
  have kc3 := cell_regrown c3
  have kc4 := cell_regrown c4
  have kc5 := cell_regrown c5
  have kc6 := cell_regrown c6
  have kc7 := cell_regrown c7
  have kc8 := cell_regrown c8
  have kc9 := cell_regrown c9
  have kR := fun d os => Calls.regrown_of (cR (grow (redrawn u0 d) os))
  have kR3 := fun d os => Calls.regrown_of (cR3 (grow (redrawn u0 d) os))
  refine wp_region_quiet_below (by kernel_rfl) (by kernel_rfl) ?_
  repeat (go_big_quiet_step (first | with_reducible exact kR _ _ | with_reducible exact kR3 _ _))
  refine wpQuiet_nil ?_
  intro _ hw'
  obtain ⟨⟨dq, osq⟩, hw''⟩ := hw'
  subst hw''
  replace hV := hV.keep (below_regrown u0 dq osq) hV.inside
  replace hB := hB.trans ((below_regrown u0 dq osq).mono hB.size)
  generalize grow (redrawn u0 dq) osq = u1 at *
  clear kR kR3 cR cR3 hP c0 c1 c2 c3 c4 c5 c6 c7 c8 c9 kc0 kc1 kc2 kc3 kc4 kc5 kc6 kc7 kc8 kc9
  have ix0 : ∀ w, (Instr.index 41 (.agg #[.int .i64 fx, .int .i64 fy, .int .i64 tx, .int .i64 ty, .int .i64 pe, .int .i64 pl, .int .i64 de, .int .i64 dl, .int .i64 ld, .int .i64 sv, .int .i64 fx2, .int .i64 fy2, .int .i64 tx2, .int .i64 ty2, .int .i64 pe2, .int .i64 pl2, .int .i64 de2, .int .i64 dl2, .int .i64 ld2, .int .i64 sv2, .int .i64 fx3, .int .i64 fy3, .int .i64 tx3, .int .i64 ty3, .int .i64 pe3, .int .i64 pl3, .int .i64 de3, .int .i64 dl3, .int .i64 ld3, .int .i64 sv3, .int .i64 0, .int .i64 0, .int .i64 0, .int .i64 0, .int .i64 0, .int .i64 0, .int .i64 0, .int .i64 0, .int .i64 0, .int .i64 0]) (.int .i64 0)).run Try.prog w = .ok (.agg #[.int .i64 fx, .int .i64 fy, .int .i64 tx, .int .i64 ty, .int .i64 pe, .int .i64 pl, .int .i64 de, .int .i64 dl, .int .i64 ld, .int .i64 sv]) w := fun _ => by kernel_rfl
  have ix1 : ∀ w, (Instr.index 41 (.agg #[.int .i64 fx, .int .i64 fy, .int .i64 tx, .int .i64 ty, .int .i64 pe, .int .i64 pl, .int .i64 de, .int .i64 dl, .int .i64 ld, .int .i64 sv, .int .i64 fx2, .int .i64 fy2, .int .i64 tx2, .int .i64 ty2, .int .i64 pe2, .int .i64 pl2, .int .i64 de2, .int .i64 dl2, .int .i64 ld2, .int .i64 sv2, .int .i64 fx3, .int .i64 fy3, .int .i64 tx3, .int .i64 ty3, .int .i64 pe3, .int .i64 pl3, .int .i64 de3, .int .i64 dl3, .int .i64 ld3, .int .i64 sv3, .int .i64 0, .int .i64 0, .int .i64 0, .int .i64 0, .int .i64 0, .int .i64 0, .int .i64 0, .int .i64 0, .int .i64 0, .int .i64 0]) (.int .i64 1)).run Try.prog w = .ok (.agg #[.int .i64 fx2, .int .i64 fy2, .int .i64 tx2, .int .i64 ty2, .int .i64 pe2, .int .i64 pl2, .int .i64 de2, .int .i64 dl2, .int .i64 ld2, .int .i64 sv2]) w := fun _ => by kernel_rfl
  have ix2 : ∀ w, (Instr.index 41 (.agg #[.int .i64 fx, .int .i64 fy, .int .i64 tx, .int .i64 ty, .int .i64 pe, .int .i64 pl, .int .i64 de, .int .i64 dl, .int .i64 ld, .int .i64 sv, .int .i64 fx2, .int .i64 fy2, .int .i64 tx2, .int .i64 ty2, .int .i64 pe2, .int .i64 pl2, .int .i64 de2, .int .i64 dl2, .int .i64 ld2, .int .i64 sv2, .int .i64 fx3, .int .i64 fy3, .int .i64 tx3, .int .i64 ty3, .int .i64 pe3, .int .i64 pl3, .int .i64 de3, .int .i64 dl3, .int .i64 ld3, .int .i64 sv3, .int .i64 0, .int .i64 0, .int .i64 0, .int .i64 0, .int .i64 0, .int .i64 0, .int .i64 0, .int .i64 0, .int .i64 0, .int .i64 0]) (.int .i64 2)).run Try.prog w = .ok (.agg #[.int .i64 fx3, .int .i64 fy3, .int .i64 tx3, .int .i64 ty3, .int .i64 pe3, .int .i64 pl3, .int .i64 de3, .int .i64 dl3, .int .i64 ld3, .int .i64 sv3]) w := fun _ => by kernel_rfl
  have ix3 : ∀ w, (Instr.index 41 (.agg #[.int .i64 fx, .int .i64 fy, .int .i64 tx, .int .i64 ty, .int .i64 pe, .int .i64 pl, .int .i64 de, .int .i64 dl, .int .i64 ld, .int .i64 sv, .int .i64 fx2, .int .i64 fy2, .int .i64 tx2, .int .i64 ty2, .int .i64 pe2, .int .i64 pl2, .int .i64 de2, .int .i64 dl2, .int .i64 ld2, .int .i64 sv2, .int .i64 fx3, .int .i64 fy3, .int .i64 tx3, .int .i64 ty3, .int .i64 pe3, .int .i64 pl3, .int .i64 de3, .int .i64 dl3, .int .i64 ld3, .int .i64 sv3, .int .i64 0, .int .i64 0, .int .i64 0, .int .i64 0, .int .i64 0, .int .i64 0, .int .i64 0, .int .i64 0, .int .i64 0, .int .i64 0]) (.int .i64 3)).run Try.prog w = .ok (.agg #[.int .i64 0, .int .i64 0, .int .i64 0, .int .i64 0, .int .i64 0, .int .i64 0, .int .i64 0, .int .i64 0, .int .i64 0, .int .i64 0]) w := fun _ => by kernel_rfl
  have jx0 : ∀ w, (Instr.index 42 (.agg #[.int .i64 hx, .int .i64 hy, .int .i64 cp, .int .i64 st, .int .i64 en, .int .i64 hx2, .int .i64 hy2, .int .i64 cp2, .int .i64 st2, .int .i64 en2, .int .i64 hx3, .int .i64 hy3, .int .i64 cp3, .int .i64 st3, .int .i64 en3, .int .i64 0, .int .i64 0, .int .i64 0, .int .i64 0, .int .i64 0]) (.int .i64 0)).run Try.prog w = .ok (.agg #[.int .i64 hx, .int .i64 hy, .int .i64 cp, .int .i64 st, .int .i64 en]) w := fun _ => by kernel_rfl
  have jx1 : ∀ w, (Instr.index 42 (.agg #[.int .i64 hx, .int .i64 hy, .int .i64 cp, .int .i64 st, .int .i64 en, .int .i64 hx2, .int .i64 hy2, .int .i64 cp2, .int .i64 st2, .int .i64 en2, .int .i64 hx3, .int .i64 hy3, .int .i64 cp3, .int .i64 st3, .int .i64 en3, .int .i64 0, .int .i64 0, .int .i64 0, .int .i64 0, .int .i64 0]) (.int .i64 1)).run Try.prog w = .ok (.agg #[.int .i64 hx2, .int .i64 hy2, .int .i64 cp2, .int .i64 st2, .int .i64 en2]) w := fun _ => by kernel_rfl
  have jx2 : ∀ w, (Instr.index 42 (.agg #[.int .i64 hx, .int .i64 hy, .int .i64 cp, .int .i64 st, .int .i64 en, .int .i64 hx2, .int .i64 hy2, .int .i64 cp2, .int .i64 st2, .int .i64 en2, .int .i64 hx3, .int .i64 hy3, .int .i64 cp3, .int .i64 st3, .int .i64 en3, .int .i64 0, .int .i64 0, .int .i64 0, .int .i64 0, .int .i64 0]) (.int .i64 2)).run Try.prog w = .ok (.agg #[.int .i64 hx3, .int .i64 hy3, .int .i64 cp3, .int .i64 st3, .int .i64 en3]) w := fun _ => by kernel_rfl
  have jx3 : ∀ w, (Instr.index 42 (.agg #[.int .i64 hx, .int .i64 hy, .int .i64 cp, .int .i64 st, .int .i64 en, .int .i64 hx2, .int .i64 hy2, .int .i64 cp2, .int .i64 st2, .int .i64 en2, .int .i64 hx3, .int .i64 hy3, .int .i64 cp3, .int .i64 st3, .int .i64 en3, .int .i64 0, .int .i64 0, .int .i64 0, .int .i64 0, .int .i64 0]) (.int .i64 3)).run Try.prog w = .ok (.agg #[.int .i64 0, .int .i64 0, .int .i64 0, .int .i64 0, .int .i64 0]) w := fun _ => by kernel_rfl
  go_wp2_with fail
  refine wp_loop_rounds 5 ?_
  rw [rounds_succ]
  go_wp2_with fail
  have hPP := At.new u1 27 #[.int .i64 fx, .int .i64 fy, .int .i64 tx, .int .i64 ty, .int .i64 pe, .int .i64 pl, .int .i64 de, .int .i64 dl, .int .i64 ld, .int .i64 sv]
  replace hV := hV.alloc (.cells #[.int .i64 fx, .int .i64 fy, .int .i64 tx, .int .i64 ty, .int .i64 pe, .int .i64 pl, .int .i64 de, .int .i64 dl, .int .i64 ld, .int .i64 sv] 27)
  replace hB := hB.alloc hB.size (.cells #[.int .i64 fx, .int .i64 fy, .int .i64 tx, .int .i64 ty, .int .i64 pe, .int .i64 pl, .int .i64 de, .int .i64 dl, .int .i64 ld, .int .i64 sv] 27)
  generalize (u1.alloc (.cells #[.int .i64 fx, .int .i64 fy, .int .i64 tx, .int .i64 ty, .int .i64 pe, .int .i64 pl, .int .i64 de, .int .i64 dl, .int .i64 ld, .int .i64 sv] 27)) = u2 at *
  generalize u1.heap.size = gu2 at *
  have v0 := hV.cell 0
  have v1 := hV.cell 1
  have v2 := hV.cell 2
  have v3 := hV.cell 3
  have v4 := hV.cell 4
  simp at v0 v1 v2 v3 v4
  have kv0 := cell_regrown v0
  have kv1 := cell_regrown v1
  have kv2 := cell_regrown v2
  have kv3 := cell_regrown v3
  have kv4 := cell_regrown v4
  have kV := fun d os => Calls.regrown_of (cV (grow (redrawn u2 d) os))
  have kV3 := fun d os => Calls.regrown_of (cV3 (grow (redrawn u2 d) os))
  refine wp_region_quiet_below (by kernel_rfl) (by kernel_rfl) ?_
  repeat (go_big_quiet_step (first | with_reducible exact kV _ _ | with_reducible exact kV3 _ _))
  refine wpQuiet_nil ?_
  intro _ hw'
  obtain ⟨⟨dq, osq⟩, hw''⟩ := hw'
  subst hw''
  replace hV := hV.keep (below_regrown u2 dq osq) hV.inside
  replace hPP := hPP.keep (below_regrown u2 dq osq) hPP.inside
  replace hB := hB.trans ((below_regrown u2 dq osq).mono hB.size)
  generalize grow (redrawn u2 dq) osq = u3 at *
  clear kV kV3 v0 v1 v2 v3 v4 kv0 kv1 kv2 kv3 kv4
  go_wp2_with fail
  refine wp_loop_rounds 5 ?_
  obtain ⟨av, ab, kA, kB⟩ := alones fx fy tx ty pe pl de dl ld sv hx hy cp st en
  have p0 := hPP.cell 0
  have p1 := hPP.cell 1
  have p2 := hPP.cell 2
  have p3 := hPP.cell 3
  have p4 := hPP.cell 4
  have p5 := hPP.cell 5
  have p6 := hPP.cell 6
  have p7 := hPP.cell 7
  have p8 := hPP.cell 8
  have p9 := hPP.cell 9
  simp at p0 p1 p2 p3 p4 p5 p6 p7 p8 p9
  have hpi := hPP.inside
  rw [rounds_succ]
  go_wp2_with fail
  clear hpi p0 p1 p2 p3 p4 p5 p6 p7 p8 p9
  have hQ := At.new u3 29 #[.int .i64 hx, .int .i64 hy, .int .i64 cp, .int .i64 st, .int .i64 en]
  replace hV := hV.alloc (.cells #[.int .i64 hx, .int .i64 hy, .int .i64 cp, .int .i64 st, .int .i64 en] 29)
  replace hPP := hPP.alloc (.cells #[.int .i64 hx, .int .i64 hy, .int .i64 cp, .int .i64 st, .int .i64 en] 29)
  replace hB := hB.alloc hB.size (.cells #[.int .i64 hx, .int .i64 hy, .int .i64 cp, .int .i64 st, .int .i64 en] 29)
  generalize (u3.alloc (.cells #[.int .i64 hx, .int .i64 hy, .int .i64 cp, .int .i64 st, .int .i64 en] 29)) = u4 at *
  generalize u3.heap.size = gu4 at *
  refine (kA _).mono ?_
  rintro e u5 ⟨rfl, hb1⟩
  replace hV := hV.keep hb1 hV.inside
  replace hPP := hPP.keep hb1 hPP.inside
  replace hQ := hQ.keep hb1 hQ.inside
  replace hB := hB.trans (hb1.mono hB.size)
  clear hb1
  have p0 := hPP.cell 0
  have p1 := hPP.cell 1
  have p2 := hPP.cell 2
  have p3 := hPP.cell 3
  have p4 := hPP.cell 4
  have p5 := hPP.cell 5
  have p6 := hPP.cell 6
  have p7 := hPP.cell 7
  have p8 := hPP.cell 8
  have p9 := hPP.cell 9
  simp at p0 p1 p2 p3 p4 p5 p6 p7 p8 p9
  have q0 := hQ.cell 0
  have q1 := hQ.cell 1
  have q2 := hQ.cell 2
  have q3 := hQ.cell 3
  have q4 := hQ.cell 4
  simp at q0 q1 q2 q3 q4
  go_wp2_with fail
  refine (kB _).mono ?_
  rintro e u6 ⟨rfl, hb1⟩
  replace hV := hV.keep hb1 hV.inside
  replace hPP := hPP.keep hb1 hPP.inside
  replace hB := hB.trans (hb1.mono hB.size)
  clear hb1
  clear hQ kA kB p0 p1 p2 p3 p4 p5 p6 p7 p8 p9 q0 q1 q2 q3 q4
  go_wp2_with fail
  obtain ⟨av, ab, kA, kB⟩ := alones fx fy tx ty pe pl de dl ld sv hx2 hy2 cp2 st2 en2
  have p0 := hPP.cell 0
  have p1 := hPP.cell 1
  have p2 := hPP.cell 2
  have p3 := hPP.cell 3
  have p4 := hPP.cell 4
  have p5 := hPP.cell 5
  have p6 := hPP.cell 6
  have p7 := hPP.cell 7
  have p8 := hPP.cell 8
  have p9 := hPP.cell 9
  simp at p0 p1 p2 p3 p4 p5 p6 p7 p8 p9
  have hpi := hPP.inside
  rw [rounds_succ]
  go_wp2_with fail
  clear hpi p0 p1 p2 p3 p4 p5 p6 p7 p8 p9
  have hQ := At.new u6 29 #[.int .i64 hx2, .int .i64 hy2, .int .i64 cp2, .int .i64 st2, .int .i64 en2]
  replace hV := hV.alloc (.cells #[.int .i64 hx2, .int .i64 hy2, .int .i64 cp2, .int .i64 st2, .int .i64 en2] 29)
  replace hPP := hPP.alloc (.cells #[.int .i64 hx2, .int .i64 hy2, .int .i64 cp2, .int .i64 st2, .int .i64 en2] 29)
  replace hB := hB.alloc hB.size (.cells #[.int .i64 hx2, .int .i64 hy2, .int .i64 cp2, .int .i64 st2, .int .i64 en2] 29)
  generalize (u6.alloc (.cells #[.int .i64 hx2, .int .i64 hy2, .int .i64 cp2, .int .i64 st2, .int .i64 en2] 29)) = u7 at *
  generalize u6.heap.size = gu7 at *
  refine (kA _).mono ?_
  rintro e u8 ⟨rfl, hb1⟩
  replace hV := hV.keep hb1 hV.inside
  replace hPP := hPP.keep hb1 hPP.inside
  replace hQ := hQ.keep hb1 hQ.inside
  replace hB := hB.trans (hb1.mono hB.size)
  clear hb1
  have p0 := hPP.cell 0
  have p1 := hPP.cell 1
  have p2 := hPP.cell 2
  have p3 := hPP.cell 3
  have p4 := hPP.cell 4
  have p5 := hPP.cell 5
  have p6 := hPP.cell 6
  have p7 := hPP.cell 7
  have p8 := hPP.cell 8
  have p9 := hPP.cell 9
  simp at p0 p1 p2 p3 p4 p5 p6 p7 p8 p9
  have q0 := hQ.cell 0
  have q1 := hQ.cell 1
  have q2 := hQ.cell 2
  have q3 := hQ.cell 3
  have q4 := hQ.cell 4
  simp at q0 q1 q2 q3 q4
  go_wp2_with fail
  refine (kB _).mono ?_
  rintro e u9 ⟨rfl, hb1⟩
  replace hV := hV.keep hb1 hV.inside
  replace hPP := hPP.keep hb1 hPP.inside
  replace hB := hB.trans (hb1.mono hB.size)
  clear hb1
  clear hQ kA kB p0 p1 p2 p3 p4 p5 p6 p7 p8 p9 q0 q1 q2 q3 q4
  go_wp2_with fail
  obtain ⟨av, ab, kA, kB⟩ := alones fx fy tx ty pe pl de dl ld sv hx3 hy3 cp3 st3 en3
  have p0 := hPP.cell 0
  have p1 := hPP.cell 1
  have p2 := hPP.cell 2
  have p3 := hPP.cell 3
  have p4 := hPP.cell 4
  have p5 := hPP.cell 5
  have p6 := hPP.cell 6
  have p7 := hPP.cell 7
  have p8 := hPP.cell 8
  have p9 := hPP.cell 9
  simp at p0 p1 p2 p3 p4 p5 p6 p7 p8 p9
  have hpi := hPP.inside
  rw [rounds_succ]
  go_wp2_with fail
  clear hpi p0 p1 p2 p3 p4 p5 p6 p7 p8 p9
  have hQ := At.new u9 29 #[.int .i64 hx3, .int .i64 hy3, .int .i64 cp3, .int .i64 st3, .int .i64 en3]
  replace hV := hV.alloc (.cells #[.int .i64 hx3, .int .i64 hy3, .int .i64 cp3, .int .i64 st3, .int .i64 en3] 29)
  replace hPP := hPP.alloc (.cells #[.int .i64 hx3, .int .i64 hy3, .int .i64 cp3, .int .i64 st3, .int .i64 en3] 29)
  replace hB := hB.alloc hB.size (.cells #[.int .i64 hx3, .int .i64 hy3, .int .i64 cp3, .int .i64 st3, .int .i64 en3] 29)
  generalize (u9.alloc (.cells #[.int .i64 hx3, .int .i64 hy3, .int .i64 cp3, .int .i64 st3, .int .i64 en3] 29)) = u10 at *
  generalize u9.heap.size = gu10 at *
  refine (kA _).mono ?_
  rintro e u11 ⟨rfl, hb1⟩
  replace hV := hV.keep hb1 hV.inside
  replace hPP := hPP.keep hb1 hPP.inside
  replace hQ := hQ.keep hb1 hQ.inside
  replace hB := hB.trans (hb1.mono hB.size)
  clear hb1
  have p0 := hPP.cell 0
  have p1 := hPP.cell 1
  have p2 := hPP.cell 2
  have p3 := hPP.cell 3
  have p4 := hPP.cell 4
  have p5 := hPP.cell 5
  have p6 := hPP.cell 6
  have p7 := hPP.cell 7
  have p8 := hPP.cell 8
  have p9 := hPP.cell 9
  simp at p0 p1 p2 p3 p4 p5 p6 p7 p8 p9
  have q0 := hQ.cell 0
  have q1 := hQ.cell 1
  have q2 := hQ.cell 2
  have q3 := hQ.cell 3
  have q4 := hQ.cell 4
  simp at q0 q1 q2 q3 q4
  go_wp2_with fail
  refine (kB _).mono ?_
  rintro e u12 ⟨rfl, hb1⟩
  replace hV := hV.keep hb1 hV.inside
  replace hPP := hPP.keep hb1 hPP.inside
  replace hB := hB.trans (hb1.mono hB.size)
  clear hb1
  clear hQ kA kB p0 p1 p2 p3 p4 p5 p6 p7 p8 p9 q0 q1 q2 q3 q4
  go_wp2_with fail
  obtain ⟨av, ab, kA, kB⟩ := alones fx fy tx ty pe pl de dl ld sv 0 0 0 0 0
  have p0 := hPP.cell 0
  have p1 := hPP.cell 1
  have p2 := hPP.cell 2
  have p3 := hPP.cell 3
  have p4 := hPP.cell 4
  have p5 := hPP.cell 5
  have p6 := hPP.cell 6
  have p7 := hPP.cell 7
  have p8 := hPP.cell 8
  have p9 := hPP.cell 9
  simp at p0 p1 p2 p3 p4 p5 p6 p7 p8 p9
  have hpi := hPP.inside
  rw [rounds_succ]
  go_wp2_with fail
  clear hpi p0 p1 p2 p3 p4 p5 p6 p7 p8 p9
  have hQ := At.new u12 29 #[.int .i64 0, .int .i64 0, .int .i64 0, .int .i64 0, .int .i64 0]
  replace hV := hV.alloc (.cells #[.int .i64 0, .int .i64 0, .int .i64 0, .int .i64 0, .int .i64 0] 29)
  replace hPP := hPP.alloc (.cells #[.int .i64 0, .int .i64 0, .int .i64 0, .int .i64 0, .int .i64 0] 29)
  replace hB := hB.alloc hB.size (.cells #[.int .i64 0, .int .i64 0, .int .i64 0, .int .i64 0, .int .i64 0] 29)
  generalize (u12.alloc (.cells #[.int .i64 0, .int .i64 0, .int .i64 0, .int .i64 0, .int .i64 0] 29)) = u13 at *
  generalize u12.heap.size = gu13 at *
  refine (kA _).mono ?_
  rintro e u14 ⟨rfl, hb1⟩
  replace hV := hV.keep hb1 hV.inside
  replace hPP := hPP.keep hb1 hPP.inside
  replace hQ := hQ.keep hb1 hQ.inside
  replace hB := hB.trans (hb1.mono hB.size)
  clear hb1
  have p0 := hPP.cell 0
  have p1 := hPP.cell 1
  have p2 := hPP.cell 2
  have p3 := hPP.cell 3
  have p4 := hPP.cell 4
  have p5 := hPP.cell 5
  have p6 := hPP.cell 6
  have p7 := hPP.cell 7
  have p8 := hPP.cell 8
  have p9 := hPP.cell 9
  simp at p0 p1 p2 p3 p4 p5 p6 p7 p8 p9
  have q0 := hQ.cell 0
  have q1 := hQ.cell 1
  have q2 := hQ.cell 2
  have q3 := hQ.cell 3
  have q4 := hQ.cell 4
  simp at q0 q1 q2 q3 q4
  go_wp2_with fail
  refine (kB _).mono ?_
  rintro e u15 ⟨rfl, hb1⟩
  replace hV := hV.keep hb1 hV.inside
  replace hPP := hPP.keep hb1 hPP.inside
  replace hB := hB.trans (hb1.mono hB.size)
  clear hb1
  clear hQ kA kB p0 p1 p2 p3 p4 p5 p6 p7 p8 p9 q0 q1 q2 q3 q4
  go_wp2_with fail
  obtain ⟨a0, a1, a2, a3, a4, a5, a6, a7, a8, a9, tb, kT, kU⟩ := tights fx fy tx ty pe pl de dl ld sv
  obtain ⟨lv, kL, kM⟩ := leasts fx fy tx ty pe pl de dl ld sv
  have p0 := hPP.cell 0
  have p1 := hPP.cell 1
  have p2 := hPP.cell 2
  have p3 := hPP.cell 3
  have p4 := hPP.cell 4
  have p5 := hPP.cell 5
  have p6 := hPP.cell 6
  have p7 := hPP.cell 7
  have p8 := hPP.cell 8
  have p9 := hPP.cell 9
  simp at p0 p1 p2 p3 p4 p5 p6 p7 p8 p9
  rw [rounds_succ]
  go_wp2_with fail
  refine (kT _).mono ?_
  rintro e u16 ⟨rfl, hb1⟩
  replace hV := hV.keep hb1 hV.inside
  replace hPP := hPP.keep hb1 hPP.inside
  replace hB := hB.trans (hb1.mono hB.size)
  clear hb1
  clear p0 p1 p2 p3 p4 p5 p6 p7 p8 p9
  have p0 := hPP.cell 0
  have p1 := hPP.cell 1
  have p2 := hPP.cell 2
  have p3 := hPP.cell 3
  have p4 := hPP.cell 4
  have p5 := hPP.cell 5
  have p6 := hPP.cell 6
  have p7 := hPP.cell 7
  have p8 := hPP.cell 8
  have p9 := hPP.cell 9
  simp at p0 p1 p2 p3 p4 p5 p6 p7 p8 p9
  have hpi := hPP.inside
  go_wp2_with fail
  clear hpi p0 p1 p2 p3 p4 p5 p6 p7 p8 p9
  have hT := At.new u16 27 #[.int .i64 a0, .int .i64 a1, .int .i64 a2, .int .i64 a3, .int .i64 a4, .int .i64 a5, .int .i64 a6, .int .i64 a7, .int .i64 a8, .int .i64 a9]
  replace hV := hV.alloc (.cells #[.int .i64 a0, .int .i64 a1, .int .i64 a2, .int .i64 a3, .int .i64 a4, .int .i64 a5, .int .i64 a6, .int .i64 a7, .int .i64 a8, .int .i64 a9] 27)
  replace hPP := hPP.alloc (.cells #[.int .i64 a0, .int .i64 a1, .int .i64 a2, .int .i64 a3, .int .i64 a4, .int .i64 a5, .int .i64 a6, .int .i64 a7, .int .i64 a8, .int .i64 a9] 27)
  replace hB := hB.alloc hB.size (.cells #[.int .i64 a0, .int .i64 a1, .int .i64 a2, .int .i64 a3, .int .i64 a4, .int .i64 a5, .int .i64 a6, .int .i64 a7, .int .i64 a8, .int .i64 a9] 27)
  generalize (u16.alloc (.cells #[.int .i64 a0, .int .i64 a1, .int .i64 a2, .int .i64 a3, .int .i64 a4, .int .i64 a5, .int .i64 a6, .int .i64 a7, .int .i64 a8, .int .i64 a9] 27)) = u17 at *
  generalize u16.heap.size = gu17 at *
  refine (kU _).mono ?_
  rintro e u18 ⟨rfl, hb1⟩
  replace hV := hV.keep hb1 hV.inside
  replace hPP := hPP.keep hb1 hPP.inside
  replace hT := hT.keep hb1 hT.inside
  replace hB := hB.trans (hb1.mono hB.size)
  clear hb1
  have p0 := hPP.cell 0
  have p1 := hPP.cell 1
  have p2 := hPP.cell 2
  have p3 := hPP.cell 3
  have p4 := hPP.cell 4
  have p5 := hPP.cell 5
  have p6 := hPP.cell 6
  have p7 := hPP.cell 7
  have p8 := hPP.cell 8
  have p9 := hPP.cell 9
  simp at p0 p1 p2 p3 p4 p5 p6 p7 p8 p9
  have t0 := hT.cell 0
  have t1 := hT.cell 1
  have t2 := hT.cell 2
  have t3 := hT.cell 3
  have t4 := hT.cell 4
  have t5 := hT.cell 5
  have t6 := hT.cell 6
  have t7 := hT.cell 7
  have t8 := hT.cell 8
  have t9 := hT.cell 9
  simp at t0 t1 t2 t3 t4 t5 t6 t7 t8 t9
  have hpi := hPP.inside
  have hti := hT.inside
  go_wp2_with fail
  clear hpi hti p0 p1 p2 p3 p4 p5 p6 p7 p8 p9 t0 t1 t2 t3 t4 t5 t6 t7 t8 t9
  have hU := At.new u18 27 #[.int .i64 a0, .int .i64 a1, .int .i64 a2, .int .i64 a3, .int .i64 a4, .int .i64 a5, .int .i64 a6, .int .i64 a7, .int .i64 a8, .int .i64 a9]
  replace hV := hV.alloc (.cells #[.int .i64 a0, .int .i64 a1, .int .i64 a2, .int .i64 a3, .int .i64 a4, .int .i64 a5, .int .i64 a6, .int .i64 a7, .int .i64 a8, .int .i64 a9] 27)
  replace hPP := hPP.alloc (.cells #[.int .i64 a0, .int .i64 a1, .int .i64 a2, .int .i64 a3, .int .i64 a4, .int .i64 a5, .int .i64 a6, .int .i64 a7, .int .i64 a8, .int .i64 a9] 27)
  replace hT := hT.alloc (.cells #[.int .i64 a0, .int .i64 a1, .int .i64 a2, .int .i64 a3, .int .i64 a4, .int .i64 a5, .int .i64 a6, .int .i64 a7, .int .i64 a8, .int .i64 a9] 27)
  replace hB := hB.alloc hB.size (.cells #[.int .i64 a0, .int .i64 a1, .int .i64 a2, .int .i64 a3, .int .i64 a4, .int .i64 a5, .int .i64 a6, .int .i64 a7, .int .i64 a8, .int .i64 a9] 27)
  generalize (u18.alloc (.cells #[.int .i64 a0, .int .i64 a1, .int .i64 a2, .int .i64 a3, .int .i64 a4, .int .i64 a5, .int .i64 a6, .int .i64 a7, .int .i64 a8, .int .i64 a9] 27)) = u19 at *
  generalize u18.heap.size = gu19 at *
  have p0 := hPP.cell 0
  have p1 := hPP.cell 1
  have p2 := hPP.cell 2
  have p3 := hPP.cell 3
  have p4 := hPP.cell 4
  have p5 := hPP.cell 5
  have p6 := hPP.cell 6
  have p7 := hPP.cell 7
  have p8 := hPP.cell 8
  have p9 := hPP.cell 9
  simp at p0 p1 p2 p3 p4 p5 p6 p7 p8 p9
  have t0 := hT.cell 0
  have t1 := hT.cell 1
  have t2 := hT.cell 2
  have t3 := hT.cell 3
  have t4 := hT.cell 4
  have t5 := hT.cell 5
  have t6 := hT.cell 6
  have t7 := hT.cell 7
  have t8 := hT.cell 8
  have t9 := hT.cell 9
  simp at t0 t1 t2 t3 t4 t5 t6 t7 t8 t9
  have y0 := hU.cell 0
  have y1 := hU.cell 1
  have y2 := hU.cell 2
  have y3 := hU.cell 3
  have y4 := hU.cell 4
  have y5 := hU.cell 5
  have y6 := hU.cell 6
  have y7 := hU.cell 7
  have y8 := hU.cell 8
  have y9 := hU.cell 9
  simp at y0 y1 y2 y3 y4 y5 y6 y7 y8 y9
  have kp0 := cell_regrown p0
  have kp1 := cell_regrown p1
  have kp2 := cell_regrown p2
  have kp3 := cell_regrown p3
  have kp4 := cell_regrown p4
  have kp5 := cell_regrown p5
  have kp6 := cell_regrown p6
  have kp7 := cell_regrown p7
  have kp8 := cell_regrown p8
  have kp9 := cell_regrown p9
  have kt0 := cell_regrown t0
  have kt1 := cell_regrown t1
  have kt2 := cell_regrown t2
  have kt3 := cell_regrown t3
  have kt4 := cell_regrown t4
  have kt5 := cell_regrown t5
  have kt6 := cell_regrown t6
  have kt7 := cell_regrown t7
  have kt8 := cell_regrown t8
  have kt9 := cell_regrown t9
  have ky0 := cell_regrown y0
  have ky1 := cell_regrown y1
  have ky2 := cell_regrown y2
  have ky3 := cell_regrown y3
  have ky4 := cell_regrown y4
  have ky5 := cell_regrown y5
  have ky6 := cell_regrown y6
  have ky7 := cell_regrown y7
  have ky8 := cell_regrown y8
  have ky9 := cell_regrown y9
  have kkL := fun d os => Calls.regrown_of (kL (grow (redrawn u19 d) os))
  have kkM := fun d os => Calls.regrown_of (kM (grow (redrawn u19 d) os))
  refine wp_region_quiet_below (by kernel_rfl) (by kernel_rfl) ?_
  repeat (go_big_quiet_step (first | with_reducible exact kkL _ _ | with_reducible exact kkM _ _))
  refine wpQuiet_nil ?_
  intro _ hw'
  obtain ⟨⟨dq, osq⟩, hw''⟩ := hw'
  subst hw''
  replace hV := hV.keep (below_regrown u19 dq osq) hV.inside
  replace hB := hB.trans ((below_regrown u19 dq osq).mono hB.size)
  generalize grow (redrawn u19 dq) osq = u20 at *
  clear kkL kkM kL kM kT kU hPP hT hU p0 p1 p2 p3 p4 p5 p6 p7 p8 p9 kp0 kp1 kp2 kp3 kp4 kp5 kp6 kp7 kp8 kp9 t0 t1 t2 t3 t4 t5 t6 t7 t8 t9 kt0 kt1 kt2 kt3 kt4 kt5 kt6 kt7 kt8 kt9 y0 y1 y2 y3 y4 y5 y6 y7 y8 y9 ky0 ky1 ky2 ky3 ky4 ky5 ky6 ky7 ky8 ky9
  go_wp2_with fail
  rw [rounds_succ]
  go_wp2_with fail
  have hPP := At.new u20 27 #[.int .i64 fx2, .int .i64 fy2, .int .i64 tx2, .int .i64 ty2, .int .i64 pe2, .int .i64 pl2, .int .i64 de2, .int .i64 dl2, .int .i64 ld2, .int .i64 sv2]
  replace hV := hV.alloc (.cells #[.int .i64 fx2, .int .i64 fy2, .int .i64 tx2, .int .i64 ty2, .int .i64 pe2, .int .i64 pl2, .int .i64 de2, .int .i64 dl2, .int .i64 ld2, .int .i64 sv2] 27)
  replace hB := hB.alloc hB.size (.cells #[.int .i64 fx2, .int .i64 fy2, .int .i64 tx2, .int .i64 ty2, .int .i64 pe2, .int .i64 pl2, .int .i64 de2, .int .i64 dl2, .int .i64 ld2, .int .i64 sv2] 27)
  generalize (u20.alloc (.cells #[.int .i64 fx2, .int .i64 fy2, .int .i64 tx2, .int .i64 ty2, .int .i64 pe2, .int .i64 pl2, .int .i64 de2, .int .i64 dl2, .int .i64 ld2, .int .i64 sv2] 27)) = u21 at *
  generalize u20.heap.size = gu21 at *
  have v0 := hV.cell 0
  have v1 := hV.cell 1
  have v2 := hV.cell 2
  have v3 := hV.cell 3
  have v4 := hV.cell 4
  simp at v0 v1 v2 v3 v4
  have kv0 := cell_regrown v0
  have kv1 := cell_regrown v1
  have kv2 := cell_regrown v2
  have kv3 := cell_regrown v3
  have kv4 := cell_regrown v4
  have kV := fun d os => Calls.regrown_of (cV (grow (redrawn u21 d) os))
  have kV3 := fun d os => Calls.regrown_of (cV3 (grow (redrawn u21 d) os))
  refine wp_region_quiet_below (by kernel_rfl) (by kernel_rfl) ?_
  repeat (go_big_quiet_step (first | with_reducible exact kV _ _ | with_reducible exact kV3 _ _))
  refine wpQuiet_nil ?_
  intro _ hw'
  obtain ⟨⟨dq, osq⟩, hw''⟩ := hw'
  subst hw''
  replace hV := hV.keep (below_regrown u21 dq osq) hV.inside
  replace hPP := hPP.keep (below_regrown u21 dq osq) hPP.inside
  replace hB := hB.trans ((below_regrown u21 dq osq).mono hB.size)
  generalize grow (redrawn u21 dq) osq = u22 at *
  clear kV kV3 v0 v1 v2 v3 v4 kv0 kv1 kv2 kv3 kv4
  go_wp2_with fail
  refine wp_loop_rounds 5 ?_
  obtain ⟨av, ab, kA, kB⟩ := alones fx2 fy2 tx2 ty2 pe2 pl2 de2 dl2 ld2 sv2 hx hy cp st en
  have p0 := hPP.cell 0
  have p1 := hPP.cell 1
  have p2 := hPP.cell 2
  have p3 := hPP.cell 3
  have p4 := hPP.cell 4
  have p5 := hPP.cell 5
  have p6 := hPP.cell 6
  have p7 := hPP.cell 7
  have p8 := hPP.cell 8
  have p9 := hPP.cell 9
  simp at p0 p1 p2 p3 p4 p5 p6 p7 p8 p9
  have hpi := hPP.inside
  rw [rounds_succ]
  go_wp2_with fail
  clear hpi p0 p1 p2 p3 p4 p5 p6 p7 p8 p9
  have hQ := At.new u22 29 #[.int .i64 hx, .int .i64 hy, .int .i64 cp, .int .i64 st, .int .i64 en]
  replace hV := hV.alloc (.cells #[.int .i64 hx, .int .i64 hy, .int .i64 cp, .int .i64 st, .int .i64 en] 29)
  replace hPP := hPP.alloc (.cells #[.int .i64 hx, .int .i64 hy, .int .i64 cp, .int .i64 st, .int .i64 en] 29)
  replace hB := hB.alloc hB.size (.cells #[.int .i64 hx, .int .i64 hy, .int .i64 cp, .int .i64 st, .int .i64 en] 29)
  generalize (u22.alloc (.cells #[.int .i64 hx, .int .i64 hy, .int .i64 cp, .int .i64 st, .int .i64 en] 29)) = u23 at *
  generalize u22.heap.size = gu23 at *
  refine (kA _).mono ?_
  rintro e u24 ⟨rfl, hb1⟩
  replace hV := hV.keep hb1 hV.inside
  replace hPP := hPP.keep hb1 hPP.inside
  replace hQ := hQ.keep hb1 hQ.inside
  replace hB := hB.trans (hb1.mono hB.size)
  clear hb1
  have p0 := hPP.cell 0
  have p1 := hPP.cell 1
  have p2 := hPP.cell 2
  have p3 := hPP.cell 3
  have p4 := hPP.cell 4
  have p5 := hPP.cell 5
  have p6 := hPP.cell 6
  have p7 := hPP.cell 7
  have p8 := hPP.cell 8
  have p9 := hPP.cell 9
  simp at p0 p1 p2 p3 p4 p5 p6 p7 p8 p9
  have q0 := hQ.cell 0
  have q1 := hQ.cell 1
  have q2 := hQ.cell 2
  have q3 := hQ.cell 3
  have q4 := hQ.cell 4
  simp at q0 q1 q2 q3 q4
  go_wp2_with fail
  refine (kB _).mono ?_
  rintro e u25 ⟨rfl, hb1⟩
  replace hV := hV.keep hb1 hV.inside
  replace hPP := hPP.keep hb1 hPP.inside
  replace hB := hB.trans (hb1.mono hB.size)
  clear hb1
  clear hQ kA kB p0 p1 p2 p3 p4 p5 p6 p7 p8 p9 q0 q1 q2 q3 q4
  go_wp2_with fail
  obtain ⟨av, ab, kA, kB⟩ := alones fx2 fy2 tx2 ty2 pe2 pl2 de2 dl2 ld2 sv2 hx2 hy2 cp2 st2 en2
  have p0 := hPP.cell 0
  have p1 := hPP.cell 1
  have p2 := hPP.cell 2
  have p3 := hPP.cell 3
  have p4 := hPP.cell 4
  have p5 := hPP.cell 5
  have p6 := hPP.cell 6
  have p7 := hPP.cell 7
  have p8 := hPP.cell 8
  have p9 := hPP.cell 9
  simp at p0 p1 p2 p3 p4 p5 p6 p7 p8 p9
  have hpi := hPP.inside
  rw [rounds_succ]
  go_wp2_with fail
  clear hpi p0 p1 p2 p3 p4 p5 p6 p7 p8 p9
  have hQ := At.new u25 29 #[.int .i64 hx2, .int .i64 hy2, .int .i64 cp2, .int .i64 st2, .int .i64 en2]
  replace hV := hV.alloc (.cells #[.int .i64 hx2, .int .i64 hy2, .int .i64 cp2, .int .i64 st2, .int .i64 en2] 29)
  replace hPP := hPP.alloc (.cells #[.int .i64 hx2, .int .i64 hy2, .int .i64 cp2, .int .i64 st2, .int .i64 en2] 29)
  replace hB := hB.alloc hB.size (.cells #[.int .i64 hx2, .int .i64 hy2, .int .i64 cp2, .int .i64 st2, .int .i64 en2] 29)
  generalize (u25.alloc (.cells #[.int .i64 hx2, .int .i64 hy2, .int .i64 cp2, .int .i64 st2, .int .i64 en2] 29)) = u26 at *
  generalize u25.heap.size = gu26 at *
  refine (kA _).mono ?_
  rintro e u27 ⟨rfl, hb1⟩
  replace hV := hV.keep hb1 hV.inside
  replace hPP := hPP.keep hb1 hPP.inside
  replace hQ := hQ.keep hb1 hQ.inside
  replace hB := hB.trans (hb1.mono hB.size)
  clear hb1
  have p0 := hPP.cell 0
  have p1 := hPP.cell 1
  have p2 := hPP.cell 2
  have p3 := hPP.cell 3
  have p4 := hPP.cell 4
  have p5 := hPP.cell 5
  have p6 := hPP.cell 6
  have p7 := hPP.cell 7
  have p8 := hPP.cell 8
  have p9 := hPP.cell 9
  simp at p0 p1 p2 p3 p4 p5 p6 p7 p8 p9
  have q0 := hQ.cell 0
  have q1 := hQ.cell 1
  have q2 := hQ.cell 2
  have q3 := hQ.cell 3
  have q4 := hQ.cell 4
  simp at q0 q1 q2 q3 q4
  go_wp2_with fail
  refine (kB _).mono ?_
  rintro e u28 ⟨rfl, hb1⟩
  replace hV := hV.keep hb1 hV.inside
  replace hPP := hPP.keep hb1 hPP.inside
  replace hB := hB.trans (hb1.mono hB.size)
  clear hb1
  clear hQ kA kB p0 p1 p2 p3 p4 p5 p6 p7 p8 p9 q0 q1 q2 q3 q4
  go_wp2_with fail
  obtain ⟨av, ab, kA, kB⟩ := alones fx2 fy2 tx2 ty2 pe2 pl2 de2 dl2 ld2 sv2 hx3 hy3 cp3 st3 en3
  have p0 := hPP.cell 0
  have p1 := hPP.cell 1
  have p2 := hPP.cell 2
  have p3 := hPP.cell 3
  have p4 := hPP.cell 4
  have p5 := hPP.cell 5
  have p6 := hPP.cell 6
  have p7 := hPP.cell 7
  have p8 := hPP.cell 8
  have p9 := hPP.cell 9
  simp at p0 p1 p2 p3 p4 p5 p6 p7 p8 p9
  have hpi := hPP.inside
  rw [rounds_succ]
  go_wp2_with fail
  clear hpi p0 p1 p2 p3 p4 p5 p6 p7 p8 p9
  have hQ := At.new u28 29 #[.int .i64 hx3, .int .i64 hy3, .int .i64 cp3, .int .i64 st3, .int .i64 en3]
  replace hV := hV.alloc (.cells #[.int .i64 hx3, .int .i64 hy3, .int .i64 cp3, .int .i64 st3, .int .i64 en3] 29)
  replace hPP := hPP.alloc (.cells #[.int .i64 hx3, .int .i64 hy3, .int .i64 cp3, .int .i64 st3, .int .i64 en3] 29)
  replace hB := hB.alloc hB.size (.cells #[.int .i64 hx3, .int .i64 hy3, .int .i64 cp3, .int .i64 st3, .int .i64 en3] 29)
  generalize (u28.alloc (.cells #[.int .i64 hx3, .int .i64 hy3, .int .i64 cp3, .int .i64 st3, .int .i64 en3] 29)) = u29 at *
  generalize u28.heap.size = gu29 at *
  refine (kA _).mono ?_
  rintro e u30 ⟨rfl, hb1⟩
  replace hV := hV.keep hb1 hV.inside
  replace hPP := hPP.keep hb1 hPP.inside
  replace hQ := hQ.keep hb1 hQ.inside
  replace hB := hB.trans (hb1.mono hB.size)
  clear hb1
  have p0 := hPP.cell 0
  have p1 := hPP.cell 1
  have p2 := hPP.cell 2
  have p3 := hPP.cell 3
  have p4 := hPP.cell 4
  have p5 := hPP.cell 5
  have p6 := hPP.cell 6
  have p7 := hPP.cell 7
  have p8 := hPP.cell 8
  have p9 := hPP.cell 9
  simp at p0 p1 p2 p3 p4 p5 p6 p7 p8 p9
  have q0 := hQ.cell 0
  have q1 := hQ.cell 1
  have q2 := hQ.cell 2
  have q3 := hQ.cell 3
  have q4 := hQ.cell 4
  simp at q0 q1 q2 q3 q4
  go_wp2_with fail
  refine (kB _).mono ?_
  rintro e u31 ⟨rfl, hb1⟩
  replace hV := hV.keep hb1 hV.inside
  replace hPP := hPP.keep hb1 hPP.inside
  replace hB := hB.trans (hb1.mono hB.size)
  clear hb1
  clear hQ kA kB p0 p1 p2 p3 p4 p5 p6 p7 p8 p9 q0 q1 q2 q3 q4
  go_wp2_with fail
  obtain ⟨av, ab, kA, kB⟩ := alones fx2 fy2 tx2 ty2 pe2 pl2 de2 dl2 ld2 sv2 0 0 0 0 0
  have p0 := hPP.cell 0
  have p1 := hPP.cell 1
  have p2 := hPP.cell 2
  have p3 := hPP.cell 3
  have p4 := hPP.cell 4
  have p5 := hPP.cell 5
  have p6 := hPP.cell 6
  have p7 := hPP.cell 7
  have p8 := hPP.cell 8
  have p9 := hPP.cell 9
  simp at p0 p1 p2 p3 p4 p5 p6 p7 p8 p9
  have hpi := hPP.inside
  rw [rounds_succ]
  go_wp2_with fail
  clear hpi p0 p1 p2 p3 p4 p5 p6 p7 p8 p9
  have hQ := At.new u31 29 #[.int .i64 0, .int .i64 0, .int .i64 0, .int .i64 0, .int .i64 0]
  replace hV := hV.alloc (.cells #[.int .i64 0, .int .i64 0, .int .i64 0, .int .i64 0, .int .i64 0] 29)
  replace hPP := hPP.alloc (.cells #[.int .i64 0, .int .i64 0, .int .i64 0, .int .i64 0, .int .i64 0] 29)
  replace hB := hB.alloc hB.size (.cells #[.int .i64 0, .int .i64 0, .int .i64 0, .int .i64 0, .int .i64 0] 29)
  generalize (u31.alloc (.cells #[.int .i64 0, .int .i64 0, .int .i64 0, .int .i64 0, .int .i64 0] 29)) = u32 at *
  generalize u31.heap.size = gu32 at *
  refine (kA _).mono ?_
  rintro e u33 ⟨rfl, hb1⟩
  replace hV := hV.keep hb1 hV.inside
  replace hPP := hPP.keep hb1 hPP.inside
  replace hQ := hQ.keep hb1 hQ.inside
  replace hB := hB.trans (hb1.mono hB.size)
  clear hb1
  have p0 := hPP.cell 0
  have p1 := hPP.cell 1
  have p2 := hPP.cell 2
  have p3 := hPP.cell 3
  have p4 := hPP.cell 4
  have p5 := hPP.cell 5
  have p6 := hPP.cell 6
  have p7 := hPP.cell 7
  have p8 := hPP.cell 8
  have p9 := hPP.cell 9
  simp at p0 p1 p2 p3 p4 p5 p6 p7 p8 p9
  have q0 := hQ.cell 0
  have q1 := hQ.cell 1
  have q2 := hQ.cell 2
  have q3 := hQ.cell 3
  have q4 := hQ.cell 4
  simp at q0 q1 q2 q3 q4
  go_wp2_with fail
  refine (kB _).mono ?_
  rintro e u34 ⟨rfl, hb1⟩
  replace hV := hV.keep hb1 hV.inside
  replace hPP := hPP.keep hb1 hPP.inside
  replace hB := hB.trans (hb1.mono hB.size)
  clear hb1
  clear hQ kA kB p0 p1 p2 p3 p4 p5 p6 p7 p8 p9 q0 q1 q2 q3 q4
  go_wp2_with fail
  obtain ⟨a0, a1, a2, a3, a4, a5, a6, a7, a8, a9, tb, kT, kU⟩ := tights fx2 fy2 tx2 ty2 pe2 pl2 de2 dl2 ld2 sv2
  obtain ⟨lv, kL, kM⟩ := leasts fx2 fy2 tx2 ty2 pe2 pl2 de2 dl2 ld2 sv2
  have p0 := hPP.cell 0
  have p1 := hPP.cell 1
  have p2 := hPP.cell 2
  have p3 := hPP.cell 3
  have p4 := hPP.cell 4
  have p5 := hPP.cell 5
  have p6 := hPP.cell 6
  have p7 := hPP.cell 7
  have p8 := hPP.cell 8
  have p9 := hPP.cell 9
  simp at p0 p1 p2 p3 p4 p5 p6 p7 p8 p9
  rw [rounds_succ]
  go_wp2_with fail
  refine (kT _).mono ?_
  rintro e u35 ⟨rfl, hb1⟩
  replace hV := hV.keep hb1 hV.inside
  replace hPP := hPP.keep hb1 hPP.inside
  replace hB := hB.trans (hb1.mono hB.size)
  clear hb1
  clear p0 p1 p2 p3 p4 p5 p6 p7 p8 p9
  have p0 := hPP.cell 0
  have p1 := hPP.cell 1
  have p2 := hPP.cell 2
  have p3 := hPP.cell 3
  have p4 := hPP.cell 4
  have p5 := hPP.cell 5
  have p6 := hPP.cell 6
  have p7 := hPP.cell 7
  have p8 := hPP.cell 8
  have p9 := hPP.cell 9
  simp at p0 p1 p2 p3 p4 p5 p6 p7 p8 p9
  have hpi := hPP.inside
  go_wp2_with fail
  clear hpi p0 p1 p2 p3 p4 p5 p6 p7 p8 p9
  have hT := At.new u35 27 #[.int .i64 a0, .int .i64 a1, .int .i64 a2, .int .i64 a3, .int .i64 a4, .int .i64 a5, .int .i64 a6, .int .i64 a7, .int .i64 a8, .int .i64 a9]
  replace hV := hV.alloc (.cells #[.int .i64 a0, .int .i64 a1, .int .i64 a2, .int .i64 a3, .int .i64 a4, .int .i64 a5, .int .i64 a6, .int .i64 a7, .int .i64 a8, .int .i64 a9] 27)
  replace hPP := hPP.alloc (.cells #[.int .i64 a0, .int .i64 a1, .int .i64 a2, .int .i64 a3, .int .i64 a4, .int .i64 a5, .int .i64 a6, .int .i64 a7, .int .i64 a8, .int .i64 a9] 27)
  replace hB := hB.alloc hB.size (.cells #[.int .i64 a0, .int .i64 a1, .int .i64 a2, .int .i64 a3, .int .i64 a4, .int .i64 a5, .int .i64 a6, .int .i64 a7, .int .i64 a8, .int .i64 a9] 27)
  generalize (u35.alloc (.cells #[.int .i64 a0, .int .i64 a1, .int .i64 a2, .int .i64 a3, .int .i64 a4, .int .i64 a5, .int .i64 a6, .int .i64 a7, .int .i64 a8, .int .i64 a9] 27)) = u36 at *
  generalize u35.heap.size = gu36 at *
  refine (kU _).mono ?_
  rintro e u37 ⟨rfl, hb1⟩
  replace hV := hV.keep hb1 hV.inside
  replace hPP := hPP.keep hb1 hPP.inside
  replace hT := hT.keep hb1 hT.inside
  replace hB := hB.trans (hb1.mono hB.size)
  clear hb1
  have p0 := hPP.cell 0
  have p1 := hPP.cell 1
  have p2 := hPP.cell 2
  have p3 := hPP.cell 3
  have p4 := hPP.cell 4
  have p5 := hPP.cell 5
  have p6 := hPP.cell 6
  have p7 := hPP.cell 7
  have p8 := hPP.cell 8
  have p9 := hPP.cell 9
  simp at p0 p1 p2 p3 p4 p5 p6 p7 p8 p9
  have t0 := hT.cell 0
  have t1 := hT.cell 1
  have t2 := hT.cell 2
  have t3 := hT.cell 3
  have t4 := hT.cell 4
  have t5 := hT.cell 5
  have t6 := hT.cell 6
  have t7 := hT.cell 7
  have t8 := hT.cell 8
  have t9 := hT.cell 9
  simp at t0 t1 t2 t3 t4 t5 t6 t7 t8 t9
  have hpi := hPP.inside
  have hti := hT.inside
  go_wp2_with fail
  clear hpi hti p0 p1 p2 p3 p4 p5 p6 p7 p8 p9 t0 t1 t2 t3 t4 t5 t6 t7 t8 t9
  have hU := At.new u37 27 #[.int .i64 a0, .int .i64 a1, .int .i64 a2, .int .i64 a3, .int .i64 a4, .int .i64 a5, .int .i64 a6, .int .i64 a7, .int .i64 a8, .int .i64 a9]
  replace hV := hV.alloc (.cells #[.int .i64 a0, .int .i64 a1, .int .i64 a2, .int .i64 a3, .int .i64 a4, .int .i64 a5, .int .i64 a6, .int .i64 a7, .int .i64 a8, .int .i64 a9] 27)
  replace hPP := hPP.alloc (.cells #[.int .i64 a0, .int .i64 a1, .int .i64 a2, .int .i64 a3, .int .i64 a4, .int .i64 a5, .int .i64 a6, .int .i64 a7, .int .i64 a8, .int .i64 a9] 27)
  replace hT := hT.alloc (.cells #[.int .i64 a0, .int .i64 a1, .int .i64 a2, .int .i64 a3, .int .i64 a4, .int .i64 a5, .int .i64 a6, .int .i64 a7, .int .i64 a8, .int .i64 a9] 27)
  replace hB := hB.alloc hB.size (.cells #[.int .i64 a0, .int .i64 a1, .int .i64 a2, .int .i64 a3, .int .i64 a4, .int .i64 a5, .int .i64 a6, .int .i64 a7, .int .i64 a8, .int .i64 a9] 27)
  generalize (u37.alloc (.cells #[.int .i64 a0, .int .i64 a1, .int .i64 a2, .int .i64 a3, .int .i64 a4, .int .i64 a5, .int .i64 a6, .int .i64 a7, .int .i64 a8, .int .i64 a9] 27)) = u38 at *
  generalize u37.heap.size = gu38 at *
  have p0 := hPP.cell 0
  have p1 := hPP.cell 1
  have p2 := hPP.cell 2
  have p3 := hPP.cell 3
  have p4 := hPP.cell 4
  have p5 := hPP.cell 5
  have p6 := hPP.cell 6
  have p7 := hPP.cell 7
  have p8 := hPP.cell 8
  have p9 := hPP.cell 9
  simp at p0 p1 p2 p3 p4 p5 p6 p7 p8 p9
  have t0 := hT.cell 0
  have t1 := hT.cell 1
  have t2 := hT.cell 2
  have t3 := hT.cell 3
  have t4 := hT.cell 4
  have t5 := hT.cell 5
  have t6 := hT.cell 6
  have t7 := hT.cell 7
  have t8 := hT.cell 8
  have t9 := hT.cell 9
  simp at t0 t1 t2 t3 t4 t5 t6 t7 t8 t9
  have y0 := hU.cell 0
  have y1 := hU.cell 1
  have y2 := hU.cell 2
  have y3 := hU.cell 3
  have y4 := hU.cell 4
  have y5 := hU.cell 5
  have y6 := hU.cell 6
  have y7 := hU.cell 7
  have y8 := hU.cell 8
  have y9 := hU.cell 9
  simp at y0 y1 y2 y3 y4 y5 y6 y7 y8 y9
  have kp0 := cell_regrown p0
  have kp1 := cell_regrown p1
  have kp2 := cell_regrown p2
  have kp3 := cell_regrown p3
  have kp4 := cell_regrown p4
  have kp5 := cell_regrown p5
  have kp6 := cell_regrown p6
  have kp7 := cell_regrown p7
  have kp8 := cell_regrown p8
  have kp9 := cell_regrown p9
  have kt0 := cell_regrown t0
  have kt1 := cell_regrown t1
  have kt2 := cell_regrown t2
  have kt3 := cell_regrown t3
  have kt4 := cell_regrown t4
  have kt5 := cell_regrown t5
  have kt6 := cell_regrown t6
  have kt7 := cell_regrown t7
  have kt8 := cell_regrown t8
  have kt9 := cell_regrown t9
  have ky0 := cell_regrown y0
  have ky1 := cell_regrown y1
  have ky2 := cell_regrown y2
  have ky3 := cell_regrown y3
  have ky4 := cell_regrown y4
  have ky5 := cell_regrown y5
  have ky6 := cell_regrown y6
  have ky7 := cell_regrown y7
  have ky8 := cell_regrown y8
  have ky9 := cell_regrown y9
  have kkL := fun d os => Calls.regrown_of (kL (grow (redrawn u38 d) os))
  have kkM := fun d os => Calls.regrown_of (kM (grow (redrawn u38 d) os))
  refine wp_region_quiet_below (by kernel_rfl) (by kernel_rfl) ?_
  repeat (go_big_quiet_step (first | with_reducible exact kkL _ _ | with_reducible exact kkM _ _))
  refine wpQuiet_nil ?_
  intro _ hw'
  obtain ⟨⟨dq, osq⟩, hw''⟩ := hw'
  subst hw''
  replace hV := hV.keep (below_regrown u38 dq osq) hV.inside
  replace hB := hB.trans ((below_regrown u38 dq osq).mono hB.size)
  generalize grow (redrawn u38 dq) osq = u39 at *
  clear kkL kkM kL kM kT kU hPP hT hU p0 p1 p2 p3 p4 p5 p6 p7 p8 p9 kp0 kp1 kp2 kp3 kp4 kp5 kp6 kp7 kp8 kp9 t0 t1 t2 t3 t4 t5 t6 t7 t8 t9 kt0 kt1 kt2 kt3 kt4 kt5 kt6 kt7 kt8 kt9 y0 y1 y2 y3 y4 y5 y6 y7 y8 y9 ky0 ky1 ky2 ky3 ky4 ky5 ky6 ky7 ky8 ky9
  go_wp2_with fail
  rw [rounds_succ]
  go_wp2_with fail
  have hPP := At.new u39 27 #[.int .i64 fx3, .int .i64 fy3, .int .i64 tx3, .int .i64 ty3, .int .i64 pe3, .int .i64 pl3, .int .i64 de3, .int .i64 dl3, .int .i64 ld3, .int .i64 sv3]
  replace hV := hV.alloc (.cells #[.int .i64 fx3, .int .i64 fy3, .int .i64 tx3, .int .i64 ty3, .int .i64 pe3, .int .i64 pl3, .int .i64 de3, .int .i64 dl3, .int .i64 ld3, .int .i64 sv3] 27)
  replace hB := hB.alloc hB.size (.cells #[.int .i64 fx3, .int .i64 fy3, .int .i64 tx3, .int .i64 ty3, .int .i64 pe3, .int .i64 pl3, .int .i64 de3, .int .i64 dl3, .int .i64 ld3, .int .i64 sv3] 27)
  generalize (u39.alloc (.cells #[.int .i64 fx3, .int .i64 fy3, .int .i64 tx3, .int .i64 ty3, .int .i64 pe3, .int .i64 pl3, .int .i64 de3, .int .i64 dl3, .int .i64 ld3, .int .i64 sv3] 27)) = u40 at *
  generalize u39.heap.size = gu40 at *
  have v0 := hV.cell 0
  have v1 := hV.cell 1
  have v2 := hV.cell 2
  have v3 := hV.cell 3
  have v4 := hV.cell 4
  simp at v0 v1 v2 v3 v4
  have kv0 := cell_regrown v0
  have kv1 := cell_regrown v1
  have kv2 := cell_regrown v2
  have kv3 := cell_regrown v3
  have kv4 := cell_regrown v4
  have kV := fun d os => Calls.regrown_of (cV (grow (redrawn u40 d) os))
  have kV3 := fun d os => Calls.regrown_of (cV3 (grow (redrawn u40 d) os))
  refine wp_region_quiet_below (by kernel_rfl) (by kernel_rfl) ?_
  repeat (go_big_quiet_step (first | with_reducible exact kV _ _ | with_reducible exact kV3 _ _))
  refine wpQuiet_nil ?_
  intro _ hw'
  obtain ⟨⟨dq, osq⟩, hw''⟩ := hw'
  subst hw''
  replace hV := hV.keep (below_regrown u40 dq osq) hV.inside
  replace hPP := hPP.keep (below_regrown u40 dq osq) hPP.inside
  replace hB := hB.trans ((below_regrown u40 dq osq).mono hB.size)
  generalize grow (redrawn u40 dq) osq = u41 at *
  clear kV kV3 v0 v1 v2 v3 v4 kv0 kv1 kv2 kv3 kv4
  go_wp2_with fail
  refine wp_loop_rounds 5 ?_
  obtain ⟨av, ab, kA, kB⟩ := alones fx3 fy3 tx3 ty3 pe3 pl3 de3 dl3 ld3 sv3 hx hy cp st en
  have p0 := hPP.cell 0
  have p1 := hPP.cell 1
  have p2 := hPP.cell 2
  have p3 := hPP.cell 3
  have p4 := hPP.cell 4
  have p5 := hPP.cell 5
  have p6 := hPP.cell 6
  have p7 := hPP.cell 7
  have p8 := hPP.cell 8
  have p9 := hPP.cell 9
  simp at p0 p1 p2 p3 p4 p5 p6 p7 p8 p9
  have hpi := hPP.inside
  rw [rounds_succ]
  go_wp2_with fail
  clear hpi p0 p1 p2 p3 p4 p5 p6 p7 p8 p9
  have hQ := At.new u41 29 #[.int .i64 hx, .int .i64 hy, .int .i64 cp, .int .i64 st, .int .i64 en]
  replace hV := hV.alloc (.cells #[.int .i64 hx, .int .i64 hy, .int .i64 cp, .int .i64 st, .int .i64 en] 29)
  replace hPP := hPP.alloc (.cells #[.int .i64 hx, .int .i64 hy, .int .i64 cp, .int .i64 st, .int .i64 en] 29)
  replace hB := hB.alloc hB.size (.cells #[.int .i64 hx, .int .i64 hy, .int .i64 cp, .int .i64 st, .int .i64 en] 29)
  generalize (u41.alloc (.cells #[.int .i64 hx, .int .i64 hy, .int .i64 cp, .int .i64 st, .int .i64 en] 29)) = u42 at *
  generalize u41.heap.size = gu42 at *
  refine (kA _).mono ?_
  rintro e u43 ⟨rfl, hb1⟩
  replace hV := hV.keep hb1 hV.inside
  replace hPP := hPP.keep hb1 hPP.inside
  replace hQ := hQ.keep hb1 hQ.inside
  replace hB := hB.trans (hb1.mono hB.size)
  clear hb1
  have p0 := hPP.cell 0
  have p1 := hPP.cell 1
  have p2 := hPP.cell 2
  have p3 := hPP.cell 3
  have p4 := hPP.cell 4
  have p5 := hPP.cell 5
  have p6 := hPP.cell 6
  have p7 := hPP.cell 7
  have p8 := hPP.cell 8
  have p9 := hPP.cell 9
  simp at p0 p1 p2 p3 p4 p5 p6 p7 p8 p9
  have q0 := hQ.cell 0
  have q1 := hQ.cell 1
  have q2 := hQ.cell 2
  have q3 := hQ.cell 3
  have q4 := hQ.cell 4
  simp at q0 q1 q2 q3 q4
  go_wp2_with fail
  refine (kB _).mono ?_
  rintro e u44 ⟨rfl, hb1⟩
  replace hV := hV.keep hb1 hV.inside
  replace hPP := hPP.keep hb1 hPP.inside
  replace hB := hB.trans (hb1.mono hB.size)
  clear hb1
  clear hQ kA kB p0 p1 p2 p3 p4 p5 p6 p7 p8 p9 q0 q1 q2 q3 q4
  go_wp2_with fail
  obtain ⟨av, ab, kA, kB⟩ := alones fx3 fy3 tx3 ty3 pe3 pl3 de3 dl3 ld3 sv3 hx2 hy2 cp2 st2 en2
  have p0 := hPP.cell 0
  have p1 := hPP.cell 1
  have p2 := hPP.cell 2
  have p3 := hPP.cell 3
  have p4 := hPP.cell 4
  have p5 := hPP.cell 5
  have p6 := hPP.cell 6
  have p7 := hPP.cell 7
  have p8 := hPP.cell 8
  have p9 := hPP.cell 9
  simp at p0 p1 p2 p3 p4 p5 p6 p7 p8 p9
  have hpi := hPP.inside
  rw [rounds_succ]
  go_wp2_with fail
  clear hpi p0 p1 p2 p3 p4 p5 p6 p7 p8 p9
  have hQ := At.new u44 29 #[.int .i64 hx2, .int .i64 hy2, .int .i64 cp2, .int .i64 st2, .int .i64 en2]
  replace hV := hV.alloc (.cells #[.int .i64 hx2, .int .i64 hy2, .int .i64 cp2, .int .i64 st2, .int .i64 en2] 29)
  replace hPP := hPP.alloc (.cells #[.int .i64 hx2, .int .i64 hy2, .int .i64 cp2, .int .i64 st2, .int .i64 en2] 29)
  replace hB := hB.alloc hB.size (.cells #[.int .i64 hx2, .int .i64 hy2, .int .i64 cp2, .int .i64 st2, .int .i64 en2] 29)
  generalize (u44.alloc (.cells #[.int .i64 hx2, .int .i64 hy2, .int .i64 cp2, .int .i64 st2, .int .i64 en2] 29)) = u45 at *
  generalize u44.heap.size = gu45 at *
  refine (kA _).mono ?_
  rintro e u46 ⟨rfl, hb1⟩
  replace hV := hV.keep hb1 hV.inside
  replace hPP := hPP.keep hb1 hPP.inside
  replace hQ := hQ.keep hb1 hQ.inside
  replace hB := hB.trans (hb1.mono hB.size)
  clear hb1
  have p0 := hPP.cell 0
  have p1 := hPP.cell 1
  have p2 := hPP.cell 2
  have p3 := hPP.cell 3
  have p4 := hPP.cell 4
  have p5 := hPP.cell 5
  have p6 := hPP.cell 6
  have p7 := hPP.cell 7
  have p8 := hPP.cell 8
  have p9 := hPP.cell 9
  simp at p0 p1 p2 p3 p4 p5 p6 p7 p8 p9
  have q0 := hQ.cell 0
  have q1 := hQ.cell 1
  have q2 := hQ.cell 2
  have q3 := hQ.cell 3
  have q4 := hQ.cell 4
  simp at q0 q1 q2 q3 q4
  go_wp2_with fail
  refine (kB _).mono ?_
  rintro e u47 ⟨rfl, hb1⟩
  replace hV := hV.keep hb1 hV.inside
  replace hPP := hPP.keep hb1 hPP.inside
  replace hB := hB.trans (hb1.mono hB.size)
  clear hb1
  clear hQ kA kB p0 p1 p2 p3 p4 p5 p6 p7 p8 p9 q0 q1 q2 q3 q4
  go_wp2_with fail
  obtain ⟨av, ab, kA, kB⟩ := alones fx3 fy3 tx3 ty3 pe3 pl3 de3 dl3 ld3 sv3 hx3 hy3 cp3 st3 en3
  have p0 := hPP.cell 0
  have p1 := hPP.cell 1
  have p2 := hPP.cell 2
  have p3 := hPP.cell 3
  have p4 := hPP.cell 4
  have p5 := hPP.cell 5
  have p6 := hPP.cell 6
  have p7 := hPP.cell 7
  have p8 := hPP.cell 8
  have p9 := hPP.cell 9
  simp at p0 p1 p2 p3 p4 p5 p6 p7 p8 p9
  have hpi := hPP.inside
  rw [rounds_succ]
  go_wp2_with fail
  clear hpi p0 p1 p2 p3 p4 p5 p6 p7 p8 p9
  have hQ := At.new u47 29 #[.int .i64 hx3, .int .i64 hy3, .int .i64 cp3, .int .i64 st3, .int .i64 en3]
  replace hV := hV.alloc (.cells #[.int .i64 hx3, .int .i64 hy3, .int .i64 cp3, .int .i64 st3, .int .i64 en3] 29)
  replace hPP := hPP.alloc (.cells #[.int .i64 hx3, .int .i64 hy3, .int .i64 cp3, .int .i64 st3, .int .i64 en3] 29)
  replace hB := hB.alloc hB.size (.cells #[.int .i64 hx3, .int .i64 hy3, .int .i64 cp3, .int .i64 st3, .int .i64 en3] 29)
  generalize (u47.alloc (.cells #[.int .i64 hx3, .int .i64 hy3, .int .i64 cp3, .int .i64 st3, .int .i64 en3] 29)) = u48 at *
  generalize u47.heap.size = gu48 at *
  refine (kA _).mono ?_
  rintro e u49 ⟨rfl, hb1⟩
  replace hV := hV.keep hb1 hV.inside
  replace hPP := hPP.keep hb1 hPP.inside
  replace hQ := hQ.keep hb1 hQ.inside
  replace hB := hB.trans (hb1.mono hB.size)
  clear hb1
  have p0 := hPP.cell 0
  have p1 := hPP.cell 1
  have p2 := hPP.cell 2
  have p3 := hPP.cell 3
  have p4 := hPP.cell 4
  have p5 := hPP.cell 5
  have p6 := hPP.cell 6
  have p7 := hPP.cell 7
  have p8 := hPP.cell 8
  have p9 := hPP.cell 9
  simp at p0 p1 p2 p3 p4 p5 p6 p7 p8 p9
  have q0 := hQ.cell 0
  have q1 := hQ.cell 1
  have q2 := hQ.cell 2
  have q3 := hQ.cell 3
  have q4 := hQ.cell 4
  simp at q0 q1 q2 q3 q4
  go_wp2_with fail
  refine (kB _).mono ?_
  rintro e u50 ⟨rfl, hb1⟩
  replace hV := hV.keep hb1 hV.inside
  replace hPP := hPP.keep hb1 hPP.inside
  replace hB := hB.trans (hb1.mono hB.size)
  clear hb1
  clear hQ kA kB p0 p1 p2 p3 p4 p5 p6 p7 p8 p9 q0 q1 q2 q3 q4
  go_wp2_with fail
  obtain ⟨av, ab, kA, kB⟩ := alones fx3 fy3 tx3 ty3 pe3 pl3 de3 dl3 ld3 sv3 0 0 0 0 0
  have p0 := hPP.cell 0
  have p1 := hPP.cell 1
  have p2 := hPP.cell 2
  have p3 := hPP.cell 3
  have p4 := hPP.cell 4
  have p5 := hPP.cell 5
  have p6 := hPP.cell 6
  have p7 := hPP.cell 7
  have p8 := hPP.cell 8
  have p9 := hPP.cell 9
  simp at p0 p1 p2 p3 p4 p5 p6 p7 p8 p9
  have hpi := hPP.inside
  rw [rounds_succ]
  go_wp2_with fail
  clear hpi p0 p1 p2 p3 p4 p5 p6 p7 p8 p9
  have hQ := At.new u50 29 #[.int .i64 0, .int .i64 0, .int .i64 0, .int .i64 0, .int .i64 0]
  replace hV := hV.alloc (.cells #[.int .i64 0, .int .i64 0, .int .i64 0, .int .i64 0, .int .i64 0] 29)
  replace hPP := hPP.alloc (.cells #[.int .i64 0, .int .i64 0, .int .i64 0, .int .i64 0, .int .i64 0] 29)
  replace hB := hB.alloc hB.size (.cells #[.int .i64 0, .int .i64 0, .int .i64 0, .int .i64 0, .int .i64 0] 29)
  generalize (u50.alloc (.cells #[.int .i64 0, .int .i64 0, .int .i64 0, .int .i64 0, .int .i64 0] 29)) = u51 at *
  generalize u50.heap.size = gu51 at *
  refine (kA _).mono ?_
  rintro e u52 ⟨rfl, hb1⟩
  replace hV := hV.keep hb1 hV.inside
  replace hPP := hPP.keep hb1 hPP.inside
  replace hQ := hQ.keep hb1 hQ.inside
  replace hB := hB.trans (hb1.mono hB.size)
  clear hb1
  have p0 := hPP.cell 0
  have p1 := hPP.cell 1
  have p2 := hPP.cell 2
  have p3 := hPP.cell 3
  have p4 := hPP.cell 4
  have p5 := hPP.cell 5
  have p6 := hPP.cell 6
  have p7 := hPP.cell 7
  have p8 := hPP.cell 8
  have p9 := hPP.cell 9
  simp at p0 p1 p2 p3 p4 p5 p6 p7 p8 p9
  have q0 := hQ.cell 0
  have q1 := hQ.cell 1
  have q2 := hQ.cell 2
  have q3 := hQ.cell 3
  have q4 := hQ.cell 4
  simp at q0 q1 q2 q3 q4
  go_wp2_with fail
  refine (kB _).mono ?_
  rintro e u53 ⟨rfl, hb1⟩
  replace hV := hV.keep hb1 hV.inside
  replace hPP := hPP.keep hb1 hPP.inside
  replace hB := hB.trans (hb1.mono hB.size)
  clear hb1
  clear hQ kA kB p0 p1 p2 p3 p4 p5 p6 p7 p8 p9 q0 q1 q2 q3 q4
  go_wp2_with fail
  obtain ⟨a0, a1, a2, a3, a4, a5, a6, a7, a8, a9, tb, kT, kU⟩ := tights fx3 fy3 tx3 ty3 pe3 pl3 de3 dl3 ld3 sv3
  obtain ⟨lv, kL, kM⟩ := leasts fx3 fy3 tx3 ty3 pe3 pl3 de3 dl3 ld3 sv3
  have p0 := hPP.cell 0
  have p1 := hPP.cell 1
  have p2 := hPP.cell 2
  have p3 := hPP.cell 3
  have p4 := hPP.cell 4
  have p5 := hPP.cell 5
  have p6 := hPP.cell 6
  have p7 := hPP.cell 7
  have p8 := hPP.cell 8
  have p9 := hPP.cell 9
  simp at p0 p1 p2 p3 p4 p5 p6 p7 p8 p9
  rw [rounds_succ]
  go_wp2_with fail
  refine (kT _).mono ?_
  rintro e u54 ⟨rfl, hb1⟩
  replace hV := hV.keep hb1 hV.inside
  replace hPP := hPP.keep hb1 hPP.inside
  replace hB := hB.trans (hb1.mono hB.size)
  clear hb1
  clear p0 p1 p2 p3 p4 p5 p6 p7 p8 p9
  have p0 := hPP.cell 0
  have p1 := hPP.cell 1
  have p2 := hPP.cell 2
  have p3 := hPP.cell 3
  have p4 := hPP.cell 4
  have p5 := hPP.cell 5
  have p6 := hPP.cell 6
  have p7 := hPP.cell 7
  have p8 := hPP.cell 8
  have p9 := hPP.cell 9
  simp at p0 p1 p2 p3 p4 p5 p6 p7 p8 p9
  have hpi := hPP.inside
  go_wp2_with fail
  clear hpi p0 p1 p2 p3 p4 p5 p6 p7 p8 p9
  have hT := At.new u54 27 #[.int .i64 a0, .int .i64 a1, .int .i64 a2, .int .i64 a3, .int .i64 a4, .int .i64 a5, .int .i64 a6, .int .i64 a7, .int .i64 a8, .int .i64 a9]
  replace hV := hV.alloc (.cells #[.int .i64 a0, .int .i64 a1, .int .i64 a2, .int .i64 a3, .int .i64 a4, .int .i64 a5, .int .i64 a6, .int .i64 a7, .int .i64 a8, .int .i64 a9] 27)
  replace hPP := hPP.alloc (.cells #[.int .i64 a0, .int .i64 a1, .int .i64 a2, .int .i64 a3, .int .i64 a4, .int .i64 a5, .int .i64 a6, .int .i64 a7, .int .i64 a8, .int .i64 a9] 27)
  replace hB := hB.alloc hB.size (.cells #[.int .i64 a0, .int .i64 a1, .int .i64 a2, .int .i64 a3, .int .i64 a4, .int .i64 a5, .int .i64 a6, .int .i64 a7, .int .i64 a8, .int .i64 a9] 27)
  generalize (u54.alloc (.cells #[.int .i64 a0, .int .i64 a1, .int .i64 a2, .int .i64 a3, .int .i64 a4, .int .i64 a5, .int .i64 a6, .int .i64 a7, .int .i64 a8, .int .i64 a9] 27)) = u55 at *
  generalize u54.heap.size = gu55 at *
  refine (kU _).mono ?_
  rintro e u56 ⟨rfl, hb1⟩
  replace hV := hV.keep hb1 hV.inside
  replace hPP := hPP.keep hb1 hPP.inside
  replace hT := hT.keep hb1 hT.inside
  replace hB := hB.trans (hb1.mono hB.size)
  clear hb1
  have p0 := hPP.cell 0
  have p1 := hPP.cell 1
  have p2 := hPP.cell 2
  have p3 := hPP.cell 3
  have p4 := hPP.cell 4
  have p5 := hPP.cell 5
  have p6 := hPP.cell 6
  have p7 := hPP.cell 7
  have p8 := hPP.cell 8
  have p9 := hPP.cell 9
  simp at p0 p1 p2 p3 p4 p5 p6 p7 p8 p9
  have t0 := hT.cell 0
  have t1 := hT.cell 1
  have t2 := hT.cell 2
  have t3 := hT.cell 3
  have t4 := hT.cell 4
  have t5 := hT.cell 5
  have t6 := hT.cell 6
  have t7 := hT.cell 7
  have t8 := hT.cell 8
  have t9 := hT.cell 9
  simp at t0 t1 t2 t3 t4 t5 t6 t7 t8 t9
  have hpi := hPP.inside
  have hti := hT.inside
  go_wp2_with fail
  clear hpi hti p0 p1 p2 p3 p4 p5 p6 p7 p8 p9 t0 t1 t2 t3 t4 t5 t6 t7 t8 t9
  have hU := At.new u56 27 #[.int .i64 a0, .int .i64 a1, .int .i64 a2, .int .i64 a3, .int .i64 a4, .int .i64 a5, .int .i64 a6, .int .i64 a7, .int .i64 a8, .int .i64 a9]
  replace hV := hV.alloc (.cells #[.int .i64 a0, .int .i64 a1, .int .i64 a2, .int .i64 a3, .int .i64 a4, .int .i64 a5, .int .i64 a6, .int .i64 a7, .int .i64 a8, .int .i64 a9] 27)
  replace hPP := hPP.alloc (.cells #[.int .i64 a0, .int .i64 a1, .int .i64 a2, .int .i64 a3, .int .i64 a4, .int .i64 a5, .int .i64 a6, .int .i64 a7, .int .i64 a8, .int .i64 a9] 27)
  replace hT := hT.alloc (.cells #[.int .i64 a0, .int .i64 a1, .int .i64 a2, .int .i64 a3, .int .i64 a4, .int .i64 a5, .int .i64 a6, .int .i64 a7, .int .i64 a8, .int .i64 a9] 27)
  replace hB := hB.alloc hB.size (.cells #[.int .i64 a0, .int .i64 a1, .int .i64 a2, .int .i64 a3, .int .i64 a4, .int .i64 a5, .int .i64 a6, .int .i64 a7, .int .i64 a8, .int .i64 a9] 27)
  generalize (u56.alloc (.cells #[.int .i64 a0, .int .i64 a1, .int .i64 a2, .int .i64 a3, .int .i64 a4, .int .i64 a5, .int .i64 a6, .int .i64 a7, .int .i64 a8, .int .i64 a9] 27)) = u57 at *
  generalize u56.heap.size = gu57 at *
  have p0 := hPP.cell 0
  have p1 := hPP.cell 1
  have p2 := hPP.cell 2
  have p3 := hPP.cell 3
  have p4 := hPP.cell 4
  have p5 := hPP.cell 5
  have p6 := hPP.cell 6
  have p7 := hPP.cell 7
  have p8 := hPP.cell 8
  have p9 := hPP.cell 9
  simp at p0 p1 p2 p3 p4 p5 p6 p7 p8 p9
  have t0 := hT.cell 0
  have t1 := hT.cell 1
  have t2 := hT.cell 2
  have t3 := hT.cell 3
  have t4 := hT.cell 4
  have t5 := hT.cell 5
  have t6 := hT.cell 6
  have t7 := hT.cell 7
  have t8 := hT.cell 8
  have t9 := hT.cell 9
  simp at t0 t1 t2 t3 t4 t5 t6 t7 t8 t9
  have y0 := hU.cell 0
  have y1 := hU.cell 1
  have y2 := hU.cell 2
  have y3 := hU.cell 3
  have y4 := hU.cell 4
  have y5 := hU.cell 5
  have y6 := hU.cell 6
  have y7 := hU.cell 7
  have y8 := hU.cell 8
  have y9 := hU.cell 9
  simp at y0 y1 y2 y3 y4 y5 y6 y7 y8 y9
  have kp0 := cell_regrown p0
  have kp1 := cell_regrown p1
  have kp2 := cell_regrown p2
  have kp3 := cell_regrown p3
  have kp4 := cell_regrown p4
  have kp5 := cell_regrown p5
  have kp6 := cell_regrown p6
  have kp7 := cell_regrown p7
  have kp8 := cell_regrown p8
  have kp9 := cell_regrown p9
  have kt0 := cell_regrown t0
  have kt1 := cell_regrown t1
  have kt2 := cell_regrown t2
  have kt3 := cell_regrown t3
  have kt4 := cell_regrown t4
  have kt5 := cell_regrown t5
  have kt6 := cell_regrown t6
  have kt7 := cell_regrown t7
  have kt8 := cell_regrown t8
  have kt9 := cell_regrown t9
  have ky0 := cell_regrown y0
  have ky1 := cell_regrown y1
  have ky2 := cell_regrown y2
  have ky3 := cell_regrown y3
  have ky4 := cell_regrown y4
  have ky5 := cell_regrown y5
  have ky6 := cell_regrown y6
  have ky7 := cell_regrown y7
  have ky8 := cell_regrown y8
  have ky9 := cell_regrown y9
  have kkL := fun d os => Calls.regrown_of (kL (grow (redrawn u57 d) os))
  have kkM := fun d os => Calls.regrown_of (kM (grow (redrawn u57 d) os))
  refine wp_region_quiet_below (by kernel_rfl) (by kernel_rfl) ?_
  repeat (go_big_quiet_step (first | with_reducible exact kkL _ _ | with_reducible exact kkM _ _))
  refine wpQuiet_nil ?_
  intro _ hw'
  obtain ⟨⟨dq, osq⟩, hw''⟩ := hw'
  subst hw''
  replace hV := hV.keep (below_regrown u57 dq osq) hV.inside
  replace hB := hB.trans ((below_regrown u57 dq osq).mono hB.size)
  generalize grow (redrawn u57 dq) osq = u58 at *
  clear kkL kkM kL kM kT kU hPP hT hU p0 p1 p2 p3 p4 p5 p6 p7 p8 p9 kp0 kp1 kp2 kp3 kp4 kp5 kp6 kp7 kp8 kp9 t0 t1 t2 t3 t4 t5 t6 t7 t8 t9 kt0 kt1 kt2 kt3 kt4 kt5 kt6 kt7 kt8 kt9 y0 y1 y2 y3 y4 y5 y6 y7 y8 y9 ky0 ky1 ky2 ky3 ky4 ky5 ky6 ky7 ky8 ky9
  go_wp2_with fail
  rw [rounds_succ]
  go_wp2_with fail
  have hPP := At.new u58 27 #[.int .i64 0, .int .i64 0, .int .i64 0, .int .i64 0, .int .i64 0, .int .i64 0, .int .i64 0, .int .i64 0, .int .i64 0, .int .i64 0]
  replace hV := hV.alloc (.cells #[.int .i64 0, .int .i64 0, .int .i64 0, .int .i64 0, .int .i64 0, .int .i64 0, .int .i64 0, .int .i64 0, .int .i64 0, .int .i64 0] 27)
  replace hB := hB.alloc hB.size (.cells #[.int .i64 0, .int .i64 0, .int .i64 0, .int .i64 0, .int .i64 0, .int .i64 0, .int .i64 0, .int .i64 0, .int .i64 0, .int .i64 0] 27)
  generalize (u58.alloc (.cells #[.int .i64 0, .int .i64 0, .int .i64 0, .int .i64 0, .int .i64 0, .int .i64 0, .int .i64 0, .int .i64 0, .int .i64 0, .int .i64 0] 27)) = u59 at *
  generalize u58.heap.size = gu59 at *
  have v0 := hV.cell 0
  have v1 := hV.cell 1
  have v2 := hV.cell 2
  have v3 := hV.cell 3
  have v4 := hV.cell 4
  simp at v0 v1 v2 v3 v4
  have kv0 := cell_regrown v0
  have kv1 := cell_regrown v1
  have kv2 := cell_regrown v2
  have kv3 := cell_regrown v3
  have kv4 := cell_regrown v4
  have kV := fun d os => Calls.regrown_of (cV (grow (redrawn u59 d) os))
  have kV3 := fun d os => Calls.regrown_of (cV3 (grow (redrawn u59 d) os))
  refine wp_region_quiet_below (by kernel_rfl) (by kernel_rfl) ?_
  repeat (go_big_quiet_step (first | with_reducible exact kV _ _ | with_reducible exact kV3 _ _))
  refine wpQuiet_nil ?_
  intro _ hw'
  obtain ⟨⟨dq, osq⟩, hw''⟩ := hw'
  subst hw''
  replace hV := hV.keep (below_regrown u59 dq osq) hV.inside
  replace hPP := hPP.keep (below_regrown u59 dq osq) hPP.inside
  replace hB := hB.trans ((below_regrown u59 dq osq).mono hB.size)
  generalize grow (redrawn u59 dq) osq = u60 at *
  clear kV kV3 v0 v1 v2 v3 v4 kv0 kv1 kv2 kv3 kv4
  go_wp2_with fail
  refine wp_loop_rounds 5 ?_
  obtain ⟨av, ab, kA, kB⟩ := alones 0 0 0 0 0 0 0 0 0 0 hx hy cp st en
  have p0 := hPP.cell 0
  have p1 := hPP.cell 1
  have p2 := hPP.cell 2
  have p3 := hPP.cell 3
  have p4 := hPP.cell 4
  have p5 := hPP.cell 5
  have p6 := hPP.cell 6
  have p7 := hPP.cell 7
  have p8 := hPP.cell 8
  have p9 := hPP.cell 9
  simp at p0 p1 p2 p3 p4 p5 p6 p7 p8 p9
  have hpi := hPP.inside
  rw [rounds_succ]
  go_wp2_with fail
  clear hpi p0 p1 p2 p3 p4 p5 p6 p7 p8 p9
  have hQ := At.new u60 29 #[.int .i64 hx, .int .i64 hy, .int .i64 cp, .int .i64 st, .int .i64 en]
  replace hV := hV.alloc (.cells #[.int .i64 hx, .int .i64 hy, .int .i64 cp, .int .i64 st, .int .i64 en] 29)
  replace hPP := hPP.alloc (.cells #[.int .i64 hx, .int .i64 hy, .int .i64 cp, .int .i64 st, .int .i64 en] 29)
  replace hB := hB.alloc hB.size (.cells #[.int .i64 hx, .int .i64 hy, .int .i64 cp, .int .i64 st, .int .i64 en] 29)
  generalize (u60.alloc (.cells #[.int .i64 hx, .int .i64 hy, .int .i64 cp, .int .i64 st, .int .i64 en] 29)) = u61 at *
  generalize u60.heap.size = gu61 at *
  refine (kA _).mono ?_
  rintro e u62 ⟨rfl, hb1⟩
  replace hV := hV.keep hb1 hV.inside
  replace hPP := hPP.keep hb1 hPP.inside
  replace hQ := hQ.keep hb1 hQ.inside
  replace hB := hB.trans (hb1.mono hB.size)
  clear hb1
  have p0 := hPP.cell 0
  have p1 := hPP.cell 1
  have p2 := hPP.cell 2
  have p3 := hPP.cell 3
  have p4 := hPP.cell 4
  have p5 := hPP.cell 5
  have p6 := hPP.cell 6
  have p7 := hPP.cell 7
  have p8 := hPP.cell 8
  have p9 := hPP.cell 9
  simp at p0 p1 p2 p3 p4 p5 p6 p7 p8 p9
  have q0 := hQ.cell 0
  have q1 := hQ.cell 1
  have q2 := hQ.cell 2
  have q3 := hQ.cell 3
  have q4 := hQ.cell 4
  simp at q0 q1 q2 q3 q4
  go_wp2_with fail
  refine (kB _).mono ?_
  rintro e u63 ⟨rfl, hb1⟩
  replace hV := hV.keep hb1 hV.inside
  replace hPP := hPP.keep hb1 hPP.inside
  replace hB := hB.trans (hb1.mono hB.size)
  clear hb1
  clear hQ kA kB p0 p1 p2 p3 p4 p5 p6 p7 p8 p9 q0 q1 q2 q3 q4
  go_wp2_with fail
  obtain ⟨av, ab, kA, kB⟩ := alones 0 0 0 0 0 0 0 0 0 0 hx2 hy2 cp2 st2 en2
  have p0 := hPP.cell 0
  have p1 := hPP.cell 1
  have p2 := hPP.cell 2
  have p3 := hPP.cell 3
  have p4 := hPP.cell 4
  have p5 := hPP.cell 5
  have p6 := hPP.cell 6
  have p7 := hPP.cell 7
  have p8 := hPP.cell 8
  have p9 := hPP.cell 9
  simp at p0 p1 p2 p3 p4 p5 p6 p7 p8 p9
  have hpi := hPP.inside
  rw [rounds_succ]
  go_wp2_with fail
  clear hpi p0 p1 p2 p3 p4 p5 p6 p7 p8 p9
  have hQ := At.new u63 29 #[.int .i64 hx2, .int .i64 hy2, .int .i64 cp2, .int .i64 st2, .int .i64 en2]
  replace hV := hV.alloc (.cells #[.int .i64 hx2, .int .i64 hy2, .int .i64 cp2, .int .i64 st2, .int .i64 en2] 29)
  replace hPP := hPP.alloc (.cells #[.int .i64 hx2, .int .i64 hy2, .int .i64 cp2, .int .i64 st2, .int .i64 en2] 29)
  replace hB := hB.alloc hB.size (.cells #[.int .i64 hx2, .int .i64 hy2, .int .i64 cp2, .int .i64 st2, .int .i64 en2] 29)
  generalize (u63.alloc (.cells #[.int .i64 hx2, .int .i64 hy2, .int .i64 cp2, .int .i64 st2, .int .i64 en2] 29)) = u64 at *
  generalize u63.heap.size = gu64 at *
  refine (kA _).mono ?_
  rintro e u65 ⟨rfl, hb1⟩
  replace hV := hV.keep hb1 hV.inside
  replace hPP := hPP.keep hb1 hPP.inside
  replace hQ := hQ.keep hb1 hQ.inside
  replace hB := hB.trans (hb1.mono hB.size)
  clear hb1
  have p0 := hPP.cell 0
  have p1 := hPP.cell 1
  have p2 := hPP.cell 2
  have p3 := hPP.cell 3
  have p4 := hPP.cell 4
  have p5 := hPP.cell 5
  have p6 := hPP.cell 6
  have p7 := hPP.cell 7
  have p8 := hPP.cell 8
  have p9 := hPP.cell 9
  simp at p0 p1 p2 p3 p4 p5 p6 p7 p8 p9
  have q0 := hQ.cell 0
  have q1 := hQ.cell 1
  have q2 := hQ.cell 2
  have q3 := hQ.cell 3
  have q4 := hQ.cell 4
  simp at q0 q1 q2 q3 q4
  go_wp2_with fail
  refine (kB _).mono ?_
  rintro e u66 ⟨rfl, hb1⟩
  replace hV := hV.keep hb1 hV.inside
  replace hPP := hPP.keep hb1 hPP.inside
  replace hB := hB.trans (hb1.mono hB.size)
  clear hb1
  clear hQ kA kB p0 p1 p2 p3 p4 p5 p6 p7 p8 p9 q0 q1 q2 q3 q4
  go_wp2_with fail
  obtain ⟨av, ab, kA, kB⟩ := alones 0 0 0 0 0 0 0 0 0 0 hx3 hy3 cp3 st3 en3
  have p0 := hPP.cell 0
  have p1 := hPP.cell 1
  have p2 := hPP.cell 2
  have p3 := hPP.cell 3
  have p4 := hPP.cell 4
  have p5 := hPP.cell 5
  have p6 := hPP.cell 6
  have p7 := hPP.cell 7
  have p8 := hPP.cell 8
  have p9 := hPP.cell 9
  simp at p0 p1 p2 p3 p4 p5 p6 p7 p8 p9
  have hpi := hPP.inside
  rw [rounds_succ]
  go_wp2_with fail
  clear hpi p0 p1 p2 p3 p4 p5 p6 p7 p8 p9
  have hQ := At.new u66 29 #[.int .i64 hx3, .int .i64 hy3, .int .i64 cp3, .int .i64 st3, .int .i64 en3]
  replace hV := hV.alloc (.cells #[.int .i64 hx3, .int .i64 hy3, .int .i64 cp3, .int .i64 st3, .int .i64 en3] 29)
  replace hPP := hPP.alloc (.cells #[.int .i64 hx3, .int .i64 hy3, .int .i64 cp3, .int .i64 st3, .int .i64 en3] 29)
  replace hB := hB.alloc hB.size (.cells #[.int .i64 hx3, .int .i64 hy3, .int .i64 cp3, .int .i64 st3, .int .i64 en3] 29)
  generalize (u66.alloc (.cells #[.int .i64 hx3, .int .i64 hy3, .int .i64 cp3, .int .i64 st3, .int .i64 en3] 29)) = u67 at *
  generalize u66.heap.size = gu67 at *
  refine (kA _).mono ?_
  rintro e u68 ⟨rfl, hb1⟩
  replace hV := hV.keep hb1 hV.inside
  replace hPP := hPP.keep hb1 hPP.inside
  replace hQ := hQ.keep hb1 hQ.inside
  replace hB := hB.trans (hb1.mono hB.size)
  clear hb1
  have p0 := hPP.cell 0
  have p1 := hPP.cell 1
  have p2 := hPP.cell 2
  have p3 := hPP.cell 3
  have p4 := hPP.cell 4
  have p5 := hPP.cell 5
  have p6 := hPP.cell 6
  have p7 := hPP.cell 7
  have p8 := hPP.cell 8
  have p9 := hPP.cell 9
  simp at p0 p1 p2 p3 p4 p5 p6 p7 p8 p9
  have q0 := hQ.cell 0
  have q1 := hQ.cell 1
  have q2 := hQ.cell 2
  have q3 := hQ.cell 3
  have q4 := hQ.cell 4
  simp at q0 q1 q2 q3 q4
  go_wp2_with fail
  refine (kB _).mono ?_
  rintro e u69 ⟨rfl, hb1⟩
  replace hV := hV.keep hb1 hV.inside
  replace hPP := hPP.keep hb1 hPP.inside
  replace hB := hB.trans (hb1.mono hB.size)
  clear hb1
  clear hQ kA kB p0 p1 p2 p3 p4 p5 p6 p7 p8 p9 q0 q1 q2 q3 q4
  go_wp2_with fail
  obtain ⟨av, ab, kA, kB⟩ := alones 0 0 0 0 0 0 0 0 0 0 0 0 0 0 0
  have p0 := hPP.cell 0
  have p1 := hPP.cell 1
  have p2 := hPP.cell 2
  have p3 := hPP.cell 3
  have p4 := hPP.cell 4
  have p5 := hPP.cell 5
  have p6 := hPP.cell 6
  have p7 := hPP.cell 7
  have p8 := hPP.cell 8
  have p9 := hPP.cell 9
  simp at p0 p1 p2 p3 p4 p5 p6 p7 p8 p9
  have hpi := hPP.inside
  rw [rounds_succ]
  go_wp2_with fail
  clear hpi p0 p1 p2 p3 p4 p5 p6 p7 p8 p9
  have hQ := At.new u69 29 #[.int .i64 0, .int .i64 0, .int .i64 0, .int .i64 0, .int .i64 0]
  replace hV := hV.alloc (.cells #[.int .i64 0, .int .i64 0, .int .i64 0, .int .i64 0, .int .i64 0] 29)
  replace hPP := hPP.alloc (.cells #[.int .i64 0, .int .i64 0, .int .i64 0, .int .i64 0, .int .i64 0] 29)
  replace hB := hB.alloc hB.size (.cells #[.int .i64 0, .int .i64 0, .int .i64 0, .int .i64 0, .int .i64 0] 29)
  generalize (u69.alloc (.cells #[.int .i64 0, .int .i64 0, .int .i64 0, .int .i64 0, .int .i64 0] 29)) = u70 at *
  generalize u69.heap.size = gu70 at *
  refine (kA _).mono ?_
  rintro e u71 ⟨rfl, hb1⟩
  replace hV := hV.keep hb1 hV.inside
  replace hPP := hPP.keep hb1 hPP.inside
  replace hQ := hQ.keep hb1 hQ.inside
  replace hB := hB.trans (hb1.mono hB.size)
  clear hb1
  have p0 := hPP.cell 0
  have p1 := hPP.cell 1
  have p2 := hPP.cell 2
  have p3 := hPP.cell 3
  have p4 := hPP.cell 4
  have p5 := hPP.cell 5
  have p6 := hPP.cell 6
  have p7 := hPP.cell 7
  have p8 := hPP.cell 8
  have p9 := hPP.cell 9
  simp at p0 p1 p2 p3 p4 p5 p6 p7 p8 p9
  have q0 := hQ.cell 0
  have q1 := hQ.cell 1
  have q2 := hQ.cell 2
  have q3 := hQ.cell 3
  have q4 := hQ.cell 4
  simp at q0 q1 q2 q3 q4
  go_wp2_with fail
  refine (kB _).mono ?_
  rintro e u72 ⟨rfl, hb1⟩
  replace hV := hV.keep hb1 hV.inside
  replace hPP := hPP.keep hb1 hPP.inside
  replace hB := hB.trans (hb1.mono hB.size)
  clear hb1
  clear hQ kA kB p0 p1 p2 p3 p4 p5 p6 p7 p8 p9 q0 q1 q2 q3 q4
  go_wp2_with fail
  obtain ⟨a0, a1, a2, a3, a4, a5, a6, a7, a8, a9, tb, kT, kU⟩ := tights 0 0 0 0 0 0 0 0 0 0
  obtain ⟨lv, kL, kM⟩ := leasts 0 0 0 0 0 0 0 0 0 0
  have p0 := hPP.cell 0
  have p1 := hPP.cell 1
  have p2 := hPP.cell 2
  have p3 := hPP.cell 3
  have p4 := hPP.cell 4
  have p5 := hPP.cell 5
  have p6 := hPP.cell 6
  have p7 := hPP.cell 7
  have p8 := hPP.cell 8
  have p9 := hPP.cell 9
  simp at p0 p1 p2 p3 p4 p5 p6 p7 p8 p9
  rw [rounds_succ]
  go_wp2_with fail
  refine (kT _).mono ?_
  rintro e u73 ⟨rfl, hb1⟩
  replace hV := hV.keep hb1 hV.inside
  replace hPP := hPP.keep hb1 hPP.inside
  replace hB := hB.trans (hb1.mono hB.size)
  clear hb1
  clear p0 p1 p2 p3 p4 p5 p6 p7 p8 p9
  have p0 := hPP.cell 0
  have p1 := hPP.cell 1
  have p2 := hPP.cell 2
  have p3 := hPP.cell 3
  have p4 := hPP.cell 4
  have p5 := hPP.cell 5
  have p6 := hPP.cell 6
  have p7 := hPP.cell 7
  have p8 := hPP.cell 8
  have p9 := hPP.cell 9
  simp at p0 p1 p2 p3 p4 p5 p6 p7 p8 p9
  have hpi := hPP.inside
  go_wp2_with fail
  clear hpi p0 p1 p2 p3 p4 p5 p6 p7 p8 p9
  have hT := At.new u73 27 #[.int .i64 a0, .int .i64 a1, .int .i64 a2, .int .i64 a3, .int .i64 a4, .int .i64 a5, .int .i64 a6, .int .i64 a7, .int .i64 a8, .int .i64 a9]
  replace hV := hV.alloc (.cells #[.int .i64 a0, .int .i64 a1, .int .i64 a2, .int .i64 a3, .int .i64 a4, .int .i64 a5, .int .i64 a6, .int .i64 a7, .int .i64 a8, .int .i64 a9] 27)
  replace hPP := hPP.alloc (.cells #[.int .i64 a0, .int .i64 a1, .int .i64 a2, .int .i64 a3, .int .i64 a4, .int .i64 a5, .int .i64 a6, .int .i64 a7, .int .i64 a8, .int .i64 a9] 27)
  replace hB := hB.alloc hB.size (.cells #[.int .i64 a0, .int .i64 a1, .int .i64 a2, .int .i64 a3, .int .i64 a4, .int .i64 a5, .int .i64 a6, .int .i64 a7, .int .i64 a8, .int .i64 a9] 27)
  generalize (u73.alloc (.cells #[.int .i64 a0, .int .i64 a1, .int .i64 a2, .int .i64 a3, .int .i64 a4, .int .i64 a5, .int .i64 a6, .int .i64 a7, .int .i64 a8, .int .i64 a9] 27)) = u74 at *
  generalize u73.heap.size = gu74 at *
  refine (kU _).mono ?_
  rintro e u75 ⟨rfl, hb1⟩
  replace hV := hV.keep hb1 hV.inside
  replace hPP := hPP.keep hb1 hPP.inside
  replace hT := hT.keep hb1 hT.inside
  replace hB := hB.trans (hb1.mono hB.size)
  clear hb1
  have p0 := hPP.cell 0
  have p1 := hPP.cell 1
  have p2 := hPP.cell 2
  have p3 := hPP.cell 3
  have p4 := hPP.cell 4
  have p5 := hPP.cell 5
  have p6 := hPP.cell 6
  have p7 := hPP.cell 7
  have p8 := hPP.cell 8
  have p9 := hPP.cell 9
  simp at p0 p1 p2 p3 p4 p5 p6 p7 p8 p9
  have t0 := hT.cell 0
  have t1 := hT.cell 1
  have t2 := hT.cell 2
  have t3 := hT.cell 3
  have t4 := hT.cell 4
  have t5 := hT.cell 5
  have t6 := hT.cell 6
  have t7 := hT.cell 7
  have t8 := hT.cell 8
  have t9 := hT.cell 9
  simp at t0 t1 t2 t3 t4 t5 t6 t7 t8 t9
  have hpi := hPP.inside
  have hti := hT.inside
  go_wp2_with fail
  clear hpi hti p0 p1 p2 p3 p4 p5 p6 p7 p8 p9 t0 t1 t2 t3 t4 t5 t6 t7 t8 t9
  have hU := At.new u75 27 #[.int .i64 a0, .int .i64 a1, .int .i64 a2, .int .i64 a3, .int .i64 a4, .int .i64 a5, .int .i64 a6, .int .i64 a7, .int .i64 a8, .int .i64 a9]
  replace hV := hV.alloc (.cells #[.int .i64 a0, .int .i64 a1, .int .i64 a2, .int .i64 a3, .int .i64 a4, .int .i64 a5, .int .i64 a6, .int .i64 a7, .int .i64 a8, .int .i64 a9] 27)
  replace hPP := hPP.alloc (.cells #[.int .i64 a0, .int .i64 a1, .int .i64 a2, .int .i64 a3, .int .i64 a4, .int .i64 a5, .int .i64 a6, .int .i64 a7, .int .i64 a8, .int .i64 a9] 27)
  replace hT := hT.alloc (.cells #[.int .i64 a0, .int .i64 a1, .int .i64 a2, .int .i64 a3, .int .i64 a4, .int .i64 a5, .int .i64 a6, .int .i64 a7, .int .i64 a8, .int .i64 a9] 27)
  replace hB := hB.alloc hB.size (.cells #[.int .i64 a0, .int .i64 a1, .int .i64 a2, .int .i64 a3, .int .i64 a4, .int .i64 a5, .int .i64 a6, .int .i64 a7, .int .i64 a8, .int .i64 a9] 27)
  generalize (u75.alloc (.cells #[.int .i64 a0, .int .i64 a1, .int .i64 a2, .int .i64 a3, .int .i64 a4, .int .i64 a5, .int .i64 a6, .int .i64 a7, .int .i64 a8, .int .i64 a9] 27)) = u76 at *
  generalize u75.heap.size = gu76 at *
  have p0 := hPP.cell 0
  have p1 := hPP.cell 1
  have p2 := hPP.cell 2
  have p3 := hPP.cell 3
  have p4 := hPP.cell 4
  have p5 := hPP.cell 5
  have p6 := hPP.cell 6
  have p7 := hPP.cell 7
  have p8 := hPP.cell 8
  have p9 := hPP.cell 9
  simp at p0 p1 p2 p3 p4 p5 p6 p7 p8 p9
  have t0 := hT.cell 0
  have t1 := hT.cell 1
  have t2 := hT.cell 2
  have t3 := hT.cell 3
  have t4 := hT.cell 4
  have t5 := hT.cell 5
  have t6 := hT.cell 6
  have t7 := hT.cell 7
  have t8 := hT.cell 8
  have t9 := hT.cell 9
  simp at t0 t1 t2 t3 t4 t5 t6 t7 t8 t9
  have y0 := hU.cell 0
  have y1 := hU.cell 1
  have y2 := hU.cell 2
  have y3 := hU.cell 3
  have y4 := hU.cell 4
  have y5 := hU.cell 5
  have y6 := hU.cell 6
  have y7 := hU.cell 7
  have y8 := hU.cell 8
  have y9 := hU.cell 9
  simp at y0 y1 y2 y3 y4 y5 y6 y7 y8 y9
  have kp0 := cell_regrown p0
  have kp1 := cell_regrown p1
  have kp2 := cell_regrown p2
  have kp3 := cell_regrown p3
  have kp4 := cell_regrown p4
  have kp5 := cell_regrown p5
  have kp6 := cell_regrown p6
  have kp7 := cell_regrown p7
  have kp8 := cell_regrown p8
  have kp9 := cell_regrown p9
  have kt0 := cell_regrown t0
  have kt1 := cell_regrown t1
  have kt2 := cell_regrown t2
  have kt3 := cell_regrown t3
  have kt4 := cell_regrown t4
  have kt5 := cell_regrown t5
  have kt6 := cell_regrown t6
  have kt7 := cell_regrown t7
  have kt8 := cell_regrown t8
  have kt9 := cell_regrown t9
  have ky0 := cell_regrown y0
  have ky1 := cell_regrown y1
  have ky2 := cell_regrown y2
  have ky3 := cell_regrown y3
  have ky4 := cell_regrown y4
  have ky5 := cell_regrown y5
  have ky6 := cell_regrown y6
  have ky7 := cell_regrown y7
  have ky8 := cell_regrown y8
  have ky9 := cell_regrown y9
  have kkL := fun d os => Calls.regrown_of (kL (grow (redrawn u76 d) os))
  have kkM := fun d os => Calls.regrown_of (kM (grow (redrawn u76 d) os))
  refine wp_region_quiet_below (by kernel_rfl) (by kernel_rfl) ?_
  repeat (go_big_quiet_step (first | with_reducible exact kkL _ _ | with_reducible exact kkM _ _))
  refine wpQuiet_nil ?_
  intro _ hw'
  obtain ⟨⟨dq, osq⟩, hw''⟩ := hw'
  subst hw''
  replace hV := hV.keep (below_regrown u76 dq osq) hV.inside
  replace hB := hB.trans ((below_regrown u76 dq osq).mono hB.size)
  generalize grow (redrawn u76 dq) osq = u77 at *
  clear kkL kkM kL kM kT kU hPP hT hU p0 p1 p2 p3 p4 p5 p6 p7 p8 p9 kp0 kp1 kp2 kp3 kp4 kp5 kp6 kp7 kp8 kp9 t0 t1 t2 t3 t4 t5 t6 t7 t8 t9 kt0 kt1 kt2 kt3 kt4 kt5 kt6 kt7 kt8 kt9 y0 y1 y2 y3 y4 y5 y6 y7 y8 y9 ky0 ky1 ky2 ky3 ky4 ky5 ky6 ky7 ky8 ky9
  go_wp2_with fail
  rw [rounds_succ]
  go_wp2_with fail
  refine (works_any _).mono ?_
  rintro e wz ⟨rfl, hb⟩
  replace hB := hB.trans (hb.mono hB.size)
  go_wp2
  go_ret
  exact ⟨rfl, hB⟩

set_option maxRecDepth 100000 in
theorem lifted (os : Os) (started : os.Started) (H : Type) (enc : TypeId × Value → H) :
    ReturnsInHanded {} Try.checked os 4 .any (Rows.orderAloneSpec.pre6 enc Try.prog Try.f4 Rows.orderAloneRow.domain false) (Rows.orderAloneSpec.post enc Try.prog Try.f4 false true false false) := by
  refine returnsInHanded_of_change (C := Try.checked) own started (by kernel_rfl) Try.func4
    (ChangeSpec.witness6 (enc := enc) (C := Try.checked) false ⟨#[], #[.agg #[.int .i64 0, .int .i64 0, .int .i64 0, .int .i64 0, .int .i64 0, .int .i64 0, .int .i64 0, .int .i64 0, .int .i64 0, .int .i64 0], .agg #[.int .i64 0, .int .i64 0, .int .i64 0, .int .i64 0, .int .i64 0]], []⟩ 8 (by kernel_rfl) (by kernel_rfl) (by kernel_rfl) (by kernel_rfl)) ?_
  intro W base args ds gs before hval0 hW hcnd _
  have hval : ∀ (j : Nat) t v, Try.f4.params[j]? = some t → args[j]? = some v → Value.okWide Try.prog W .any base t v := hval0
  have hW' := hW
  obtain ⟨p, q, hA0, hV, rfl, hfz, hnd⟩ := hW
  have hA : DataW.TrodAll enc Try.prog W 0 (fun _ => true) true Try.f4.params.toList args.toList ds p := hA0
  rw [Try.params4] at hA hval
  obtain ⟨v0, vs0, d0, ds0, p0, q0, hargs, rfl, rfl, h0, r0⟩ := trodAll_cons hA
  obtain ⟨v1, vs1, d1, ds1, p1, q1, rfl, rfl, rfl, h1, r1⟩ := trodAll_cons r0
  obtain ⟨rfl, rfl, rfl⟩ := trodAll_nil r1
  obtain rfl : args = #[v0, v1] := by cases args; simp_all
  obtain ⟨rfl, rfl⟩ := trodVars_none hV
  obtain ⟨fx, fy, tx, ty, pe, pl, de, dl, ld, sv, rfl, _⟩ := Order.openRequest (hval 0 27 v0 rfl rfl) h0
  obtain ⟨hx, hy, cp, st, en, rfl, wen⟩ := Order.openVehicle (hval 1 29 v1 rfl rfl) h1
  exact (walk fx fy tx ty pe pl de dl ld sv hx hy cp st en W).mono fun e W' ⟨he, hb⟩ => ⟨_, he, Close.law_post laidOut (by kernel_rfl) rfl (by kernel_rfl) Try.underlying4 hW' rfl hb⟩

theorem over : Rows.orderAloneRow.holds Try.pinned (OpenSpec.ofChange Rows.orderAloneSpec) :=
  OpenClaim.holds_of_wide 4 Try.f4 rfl rfl rfl rfl rfl rfl rfl ⟨rfl, rfl, rfl, rfl, rfl⟩ rfl rfl rfl rfl rfl (by kernel_rfl) Try.func4 (by kernel_rfl)
    (of_decide_eq_true (by kernel_rfl)) (by unfold Func.isWrapper; first | (rw [if_pos (by decide +kernel)]; kernel_rfl) | (rw [if_neg (by decide +kernel)]; exact ⟨rfl, rfl⟩))
    (fun os started H enc _ => lifted os started H enc)

theorem proved : Rows.OrderAloneSaid := over
#print axioms proved

end Go.Proofs.Ytcdgfjfomiokmaa.orderAlone
