/-
  For all requests, vehicles and things that are set: which requests, and vehicles, may be, and why not, is as the document says. Conditions: none but that the arguments are such values.
-/
import Derived.Test.YtcdgfjfomiokmaaOrderWorks
import Derived.Test.YtcdgfjfomiokmaaOrderOpen
import Derived.Deep.CutRange
import Derived.Deep.CutBlock
namespace Go.Proofs.Ytcdgfjfomiokmaa.orderChecks
open Go.ChangeShapes Go.WideShapes Go.ChangeAt Go.RowKit Go.Sort
open Go.Proofs.Ytcdgfjfomiokmaa.Mem Go.Proofs.Ytcdgfjfomiokmaa.Order Go.Proofs.Ytcdgfjfomiokmaa.Tail Go.Proofs.Ytcdgfjfomiokmaa.Window Go.Proofs.Ytcdgfjfomiokmaa.Place Go.Proofs.Ytcdgfjfomiokmaa.Float
set_option linter.unusedVariables false

set_option maxHeartbeats 8000000 in
theorem walk (fx fy tx ty pe pl de dl ld sv hx hy cp st en o0 o1 : Int) (w : World) :
    Calls Try.prog 3 #[.agg #[.int .i64 fx, .int .i64 fy, .int .i64 tx, .int .i64 ty, .int .i64 pe, .int .i64 pl, .int .i64 de, .int .i64 dl, .int .i64 ld, .int .i64 sv], .agg #[.int .i64 hx, .int .i64 hy, .int .i64 cp, .int .i64 st, .int .i64 en], .agg #[.int .i64 o0, .int .i64 o1]] w fun r w' => r = .returned (.bool true) ∧ Below w.heap.size w w' := by
  obtain ⟨fx2, fy2, tx2, ty2, pe2, pl2, de2, dl2, ld2, sv2, cR⟩ := right_f fx fy tx ty pe pl de dl ld sv
  obtain ⟨hx2, hy2, cp2, st2, en2, cV⟩ := vehicle_f hx hy cp st en
  obtain ⟨fx3, fy3, tx3, ty3, pe3, pl3, de3, dl3, ld3, sv3, cR3⟩ := right_t fx fy tx ty pe pl de dl ld sv
  obtain ⟨hx3, hy3, cp3, st3, en3, cV3, _⟩ := vehicle_t hx hy cp st en
  have hP : At (((w.alloc (.cells #[.int .i64 fx, .int .i64 fy, .int .i64 tx, .int .i64 ty, .int .i64 pe, .int .i64 pl, .int .i64 de, .int .i64 dl, .int .i64 ld, .int .i64 sv] 27)).alloc (.cells #[.int .i64 hx, .int .i64 hy, .int .i64 cp, .int .i64 st, .int .i64 en] 29)).alloc (.cells #[.int .i64 o0, .int .i64 o1] 30)) w.heap.size 27 #[.int .i64 fx, .int .i64 fy, .int .i64 tx, .int .i64 ty, .int .i64 pe, .int .i64 pl, .int .i64 de, .int .i64 dl, .int .i64 ld, .int .i64 sv] := ((At.new w _ _).alloc _).alloc _
  have hV : At (((w.alloc (.cells #[.int .i64 fx, .int .i64 fy, .int .i64 tx, .int .i64 ty, .int .i64 pe, .int .i64 pl, .int .i64 de, .int .i64 dl, .int .i64 ld, .int .i64 sv] 27)).alloc (.cells #[.int .i64 hx, .int .i64 hy, .int .i64 cp, .int .i64 st, .int .i64 en] 29)).alloc (.cells #[.int .i64 o0, .int .i64 o1] 30)) (w.heap.size + 1) 29 #[.int .i64 hx, .int .i64 hy, .int .i64 cp, .int .i64 st, .int .i64 en] := (At.new_ _ _ _ (by simp)).alloc _
  have hM : At (((w.alloc (.cells #[.int .i64 fx, .int .i64 fy, .int .i64 tx, .int .i64 ty, .int .i64 pe, .int .i64 pl, .int .i64 de, .int .i64 dl, .int .i64 ld, .int .i64 sv] 27)).alloc (.cells #[.int .i64 hx, .int .i64 hy, .int .i64 cp, .int .i64 st, .int .i64 en] 29)).alloc (.cells #[.int .i64 o0, .int .i64 o1] 30)) (w.heap.size + 1 + 1) 30 #[.int .i64 o0, .int .i64 o1] := At.new_ _ _ _ (by simp)
  have hB : Below w.heap.size w (((w.alloc (.cells #[.int .i64 fx, .int .i64 fy, .int .i64 tx, .int .i64 ty, .int .i64 pe, .int .i64 pl, .int .i64 de, .int .i64 dl, .int .i64 ld, .int .i64 sv] 27)).alloc (.cells #[.int .i64 hx, .int .i64 hy, .int .i64 cp, .int .i64 st, .int .i64 en] 29)).alloc (.cells #[.int .i64 o0, .int .i64 o1] 30)) := by
    repeat (first | exact Below.refl _ _ | refine Below.alloc ?_ (by simp <;> omega) _)
  go_enter Try.func3, Try.ntmps3
  go_upto_region 1 with fail
  generalize (((w.alloc (.cells #[.int .i64 fx, .int .i64 fy, .int .i64 tx, .int .i64 ty, .int .i64 pe, .int .i64 pl, .int .i64 de, .int .i64 dl, .int .i64 ld, .int .i64 sv] 27)).alloc (.cells #[.int .i64 hx, .int .i64 hy, .int .i64 cp, .int .i64 st, .int .i64 en] 29)).alloc (.cells #[.int .i64 o0, .int .i64 o1] 30)) = w1 at *
  have hsp := hP.inside
  have hsv := hV.inside
  have hsm := hM.inside
  refine wp_region_float2 4 7 8 (.cells #[.int .i64 0, .int .i64 0, .int .i64 0, .int .i64 0, .int .i64 0, .int .i64 0, .int .i64 0, .int .i64 0, .int .i64 0, .int .i64 0] 27) (.cells #[.int .i64 0, .int .i64 0, .int .i64 0, .int .i64 0, .int .i64 0] 29) ?af (by kernel_rfl) (by kernel_rfl) (by kernel_rfl) ?hL ?hL2 ?hW ?hT
  case hL =>
    intro o ho a wz
    have ho' := (Option.some.inj ho).symm
    subst ho'
    simp only [ptr]
    go_simp
  case hL2 =>
    intro o ho a wz
    have ho' := (Option.some.inj ho).symm
    subst ho'
    simp only [ptr]
    go_simp
  case hW =>
    intro w0 hw0
    have hP0 := hP.keep hw0 hP.inside
    have hV0 := hV.keep hw0 hV.inside
    have c0 := hP0.cell 0
    have c1 := hP0.cell 1
    have c2 := hP0.cell 2
    have c3 := hP0.cell 3
    have c4 := hP0.cell 4
    have c5 := hP0.cell 5
    have c6 := hP0.cell 6
    have c7 := hP0.cell 7
    have c8 := hP0.cell 8
    have c9 := hP0.cell 9
    simp at c0 c1 c2 c3 c4 c5 c6 c7 c8 c9
    have v0 := hV0.cell 0
    have v1 := hV0.cell 1
    have v2 := hV0.cell 2
    have v3 := hV0.cell 3
    have v4 := hV0.cell 4
    simp at v0 v1 v2 v3 v4
    have kc0 := cell_regrown c0
    have kc1 := cell_regrown c1
    have kc2 := cell_regrown c2
    have kc3 := cell_regrown c3
    have kc4 := cell_regrown c4
    have kc5 := cell_regrown c5
    have kc6 := cell_regrown c6
    have kc7 := cell_regrown c7
    have kc8 := cell_regrown c8
    have kc9 := cell_regrown c9
    have kv0 := cell_regrown v0
    have kv1 := cell_regrown v1
    have kv2 := cell_regrown v2
    have kv3 := cell_regrown v3
    have kv4 := cell_regrown v4
    have kR := fun d os => Calls.regrown_of (cR (grow (redrawn w0 d) os))
    have kV := fun d os => Calls.regrown_of (cV (grow (redrawn w0 d) os))
    simp only [List.take_succ_cons, List.take_zero]
    repeat (go_big_quiet_step (first | with_reducible exact kR _ _ | with_reducible exact kV _ _))
    refine wpQuiet_nil ?_
    rfl
  case hT =>
    intro g h w2 hgh hg hh hob hoc hb2
    replace hB := hB.trans (hb2.mono hB.size)
    replace hP := hP.keep hb2 hP.inside
    replace hV := hV.keep hb2 hV.inside
    replace hM := hM.keep hb2 hM.inside
    have hX : At w2 g 27 #[.int .i64 0, .int .i64 0, .int .i64 0, .int .i64 0, .int .i64 0, .int .i64 0, .int .i64 0, .int .i64 0, .int .i64 0, .int .i64 0] := hob
    have hY : At w2 h 29 #[.int .i64 0, .int .i64 0, .int .i64 0, .int .i64 0, .int .i64 0] := hoc
    simp only [List.drop_succ_cons, List.drop_zero]
    have x0 := hX.cell 0
    have x1 := hX.cell 1
    have x2 := hX.cell 2
    have x3 := hX.cell 3
    have x4 := hX.cell 4
    have x5 := hX.cell 5
    have x6 := hX.cell 6
    have x7 := hX.cell 7
    have x8 := hX.cell 8
    have x9 := hX.cell 9
    simp at x0 x1 x2 x3 x4 x5 x6 x7 x8 x9
    have y0 := hY.cell 0
    have y1 := hY.cell 1
    have y2 := hY.cell 2
    have y3 := hY.cell 3
    have y4 := hY.cell 4
    simp at y0 y1 y2 y3 y4
    have hf := hX.free
    have hf2 := hY.free
    go_upto_region 2 with fail
    replace hX : At (((((((((((((((w2.setCell ⟨g, 0, none⟩ (.int .i64 fx2)).setCell ⟨g, 1, none⟩ (.int .i64 fy2)).setCell ⟨g, 2, none⟩ (.int .i64 tx2)).setCell ⟨g, 3, none⟩ (.int .i64 ty2)).setCell ⟨g, 4, none⟩ (.int .i64 pe2)).setCell ⟨g, 5, none⟩ (.int .i64 pl2)).setCell ⟨g, 6, none⟩ (.int .i64 de2)).setCell ⟨g, 7, none⟩ (.int .i64 dl2)).setCell ⟨g, 8, none⟩ (.int .i64 ld2)).setCell ⟨g, 9, none⟩ (.int .i64 sv2)).setCell ⟨h, 0, none⟩ (.int .i64 hx2)).setCell ⟨h, 1, none⟩ (.int .i64 hy2)).setCell ⟨h, 2, none⟩ (.int .i64 cp2)).setCell ⟨h, 3, none⟩ (.int .i64 st2)).setCell ⟨h, 4, none⟩ (.int .i64 en2)) g 27 #[.int .i64 fx2, .int .i64 fy2, .int .i64 tx2, .int .i64 ty2, .int .i64 pe2, .int .i64 pl2, .int .i64 de2, .int .i64 dl2, .int .i64 ld2, .int .i64 sv2] := ((((((put10 hX).far hgh 0 _).far hgh 1 _).far hgh 2 _).far hgh 3 _).far hgh 4 _)
    replace hY : At (((((((((((((((w2.setCell ⟨g, 0, none⟩ (.int .i64 fx2)).setCell ⟨g, 1, none⟩ (.int .i64 fy2)).setCell ⟨g, 2, none⟩ (.int .i64 tx2)).setCell ⟨g, 3, none⟩ (.int .i64 ty2)).setCell ⟨g, 4, none⟩ (.int .i64 pe2)).setCell ⟨g, 5, none⟩ (.int .i64 pl2)).setCell ⟨g, 6, none⟩ (.int .i64 de2)).setCell ⟨g, 7, none⟩ (.int .i64 dl2)).setCell ⟨g, 8, none⟩ (.int .i64 ld2)).setCell ⟨g, 9, none⟩ (.int .i64 sv2)).setCell ⟨h, 0, none⟩ (.int .i64 hx2)).setCell ⟨h, 1, none⟩ (.int .i64 hy2)).setCell ⟨h, 2, none⟩ (.int .i64 cp2)).setCell ⟨h, 3, none⟩ (.int .i64 st2)).setCell ⟨h, 4, none⟩ (.int .i64 en2)) h 29 #[.int .i64 hx2, .int .i64 hy2, .int .i64 cp2, .int .i64 st2, .int .i64 en2] := by simpa using (((((((((((((((hY.far (Ne.symm hgh) 0 _).far (Ne.symm hgh) 1 _).far (Ne.symm hgh) 2 _).far (Ne.symm hgh) 3 _).far (Ne.symm hgh) 4 _).far (Ne.symm hgh) 5 _).far (Ne.symm hgh) 6 _).far (Ne.symm hgh) 7 _).far (Ne.symm hgh) 8 _).far (Ne.symm hgh) 9 _).put 0 (.int .i64 hx2)).put 1 (.int .i64 hy2)).put 2 (.int .i64 cp2)).put 3 (.int .i64 st2)).put 4 (.int .i64 en2))
    replace hP : At (((((((((((((((w2.setCell ⟨g, 0, none⟩ (.int .i64 fx2)).setCell ⟨g, 1, none⟩ (.int .i64 fy2)).setCell ⟨g, 2, none⟩ (.int .i64 tx2)).setCell ⟨g, 3, none⟩ (.int .i64 ty2)).setCell ⟨g, 4, none⟩ (.int .i64 pe2)).setCell ⟨g, 5, none⟩ (.int .i64 pl2)).setCell ⟨g, 6, none⟩ (.int .i64 de2)).setCell ⟨g, 7, none⟩ (.int .i64 dl2)).setCell ⟨g, 8, none⟩ (.int .i64 ld2)).setCell ⟨g, 9, none⟩ (.int .i64 sv2)).setCell ⟨h, 0, none⟩ (.int .i64 hx2)).setCell ⟨h, 1, none⟩ (.int .i64 hy2)).setCell ⟨h, 2, none⟩ (.int .i64 cp2)).setCell ⟨h, 3, none⟩ (.int .i64 st2)).setCell ⟨h, 4, none⟩ (.int .i64 en2)) w.heap.size 27 #[.int .i64 fx, .int .i64 fy, .int .i64 tx, .int .i64 ty, .int .i64 pe, .int .i64 pl, .int .i64 de, .int .i64 dl, .int .i64 ld, .int .i64 sv] := (((((((((((((((hP.far (by omega) 0 _).far (by omega) 1 _).far (by omega) 2 _).far (by omega) 3 _).far (by omega) 4 _).far (by omega) 5 _).far (by omega) 6 _).far (by omega) 7 _).far (by omega) 8 _).far (by omega) 9 _).far (by omega) 0 _).far (by omega) 1 _).far (by omega) 2 _).far (by omega) 3 _).far (by omega) 4 _)
    replace hV : At (((((((((((((((w2.setCell ⟨g, 0, none⟩ (.int .i64 fx2)).setCell ⟨g, 1, none⟩ (.int .i64 fy2)).setCell ⟨g, 2, none⟩ (.int .i64 tx2)).setCell ⟨g, 3, none⟩ (.int .i64 ty2)).setCell ⟨g, 4, none⟩ (.int .i64 pe2)).setCell ⟨g, 5, none⟩ (.int .i64 pl2)).setCell ⟨g, 6, none⟩ (.int .i64 de2)).setCell ⟨g, 7, none⟩ (.int .i64 dl2)).setCell ⟨g, 8, none⟩ (.int .i64 ld2)).setCell ⟨g, 9, none⟩ (.int .i64 sv2)).setCell ⟨h, 0, none⟩ (.int .i64 hx2)).setCell ⟨h, 1, none⟩ (.int .i64 hy2)).setCell ⟨h, 2, none⟩ (.int .i64 cp2)).setCell ⟨h, 3, none⟩ (.int .i64 st2)).setCell ⟨h, 4, none⟩ (.int .i64 en2)) (w.heap.size + 1) 29 #[.int .i64 hx, .int .i64 hy, .int .i64 cp, .int .i64 st, .int .i64 en] := (((((((((((((((hV.far (by omega) 0 _).far (by omega) 1 _).far (by omega) 2 _).far (by omega) 3 _).far (by omega) 4 _).far (by omega) 5 _).far (by omega) 6 _).far (by omega) 7 _).far (by omega) 8 _).far (by omega) 9 _).far (by omega) 0 _).far (by omega) 1 _).far (by omega) 2 _).far (by omega) 3 _).far (by omega) 4 _)
    replace hM : At (((((((((((((((w2.setCell ⟨g, 0, none⟩ (.int .i64 fx2)).setCell ⟨g, 1, none⟩ (.int .i64 fy2)).setCell ⟨g, 2, none⟩ (.int .i64 tx2)).setCell ⟨g, 3, none⟩ (.int .i64 ty2)).setCell ⟨g, 4, none⟩ (.int .i64 pe2)).setCell ⟨g, 5, none⟩ (.int .i64 pl2)).setCell ⟨g, 6, none⟩ (.int .i64 de2)).setCell ⟨g, 7, none⟩ (.int .i64 dl2)).setCell ⟨g, 8, none⟩ (.int .i64 ld2)).setCell ⟨g, 9, none⟩ (.int .i64 sv2)).setCell ⟨h, 0, none⟩ (.int .i64 hx2)).setCell ⟨h, 1, none⟩ (.int .i64 hy2)).setCell ⟨h, 2, none⟩ (.int .i64 cp2)).setCell ⟨h, 3, none⟩ (.int .i64 st2)).setCell ⟨h, 4, none⟩ (.int .i64 en2)) (w.heap.size + 1 + 1) 30 #[.int .i64 o0, .int .i64 o1] := (((((((((((((((hM.far (by omega) 0 _).far (by omega) 1 _).far (by omega) 2 _).far (by omega) 3 _).far (by omega) 4 _).far (by omega) 5 _).far (by omega) 6 _).far (by omega) 7 _).far (by omega) 8 _).far (by omega) 9 _).far (by omega) 0 _).far (by omega) 1 _).far (by omega) 2 _).far (by omega) 3 _).far (by omega) 4 _)
    replace hB : Below w.heap.size w (((((((((((((((w2.setCell ⟨g, 0, none⟩ (.int .i64 fx2)).setCell ⟨g, 1, none⟩ (.int .i64 fy2)).setCell ⟨g, 2, none⟩ (.int .i64 tx2)).setCell ⟨g, 3, none⟩ (.int .i64 ty2)).setCell ⟨g, 4, none⟩ (.int .i64 pe2)).setCell ⟨g, 5, none⟩ (.int .i64 pl2)).setCell ⟨g, 6, none⟩ (.int .i64 de2)).setCell ⟨g, 7, none⟩ (.int .i64 dl2)).setCell ⟨g, 8, none⟩ (.int .i64 ld2)).setCell ⟨g, 9, none⟩ (.int .i64 sv2)).setCell ⟨h, 0, none⟩ (.int .i64 hx2)).setCell ⟨h, 1, none⟩ (.int .i64 hy2)).setCell ⟨h, 2, none⟩ (.int .i64 cp2)).setCell ⟨h, 3, none⟩ (.int .i64 st2)).setCell ⟨h, 4, none⟩ (.int .i64 en2)) := (Below.setCell (Below.setCell (Below.setCell (Below.setCell (Below.setCell (Below.setCell (Below.setCell (Below.setCell (Below.setCell (Below.setCell (Below.setCell (Below.setCell (Below.setCell (Below.setCell (Below.setCell hB (by show w.heap.size ≤ g; omega) _) (by show w.heap.size ≤ g; omega) _) (by show w.heap.size ≤ g; omega) _) (by show w.heap.size ≤ g; omega) _) (by show w.heap.size ≤ g; omega) _) (by show w.heap.size ≤ g; omega) _) (by show w.heap.size ≤ g; omega) _) (by show w.heap.size ≤ g; omega) _) (by show w.heap.size ≤ g; omega) _) (by show w.heap.size ≤ g; omega) _) (by show w.heap.size ≤ h; omega) _) (by show w.heap.size ≤ h; omega) _) (by show w.heap.size ≤ h; omega) _) (by show w.heap.size ≤ h; omega) _) (by show w.heap.size ≤ h; omega) _)
    generalize (((((((((((((((w2.setCell ⟨g, 0, none⟩ (.int .i64 fx2)).setCell ⟨g, 1, none⟩ (.int .i64 fy2)).setCell ⟨g, 2, none⟩ (.int .i64 tx2)).setCell ⟨g, 3, none⟩ (.int .i64 ty2)).setCell ⟨g, 4, none⟩ (.int .i64 pe2)).setCell ⟨g, 5, none⟩ (.int .i64 pl2)).setCell ⟨g, 6, none⟩ (.int .i64 de2)).setCell ⟨g, 7, none⟩ (.int .i64 dl2)).setCell ⟨g, 8, none⟩ (.int .i64 ld2)).setCell ⟨g, 9, none⟩ (.int .i64 sv2)).setCell ⟨h, 0, none⟩ (.int .i64 hx2)).setCell ⟨h, 1, none⟩ (.int .i64 hy2)).setCell ⟨h, 2, none⟩ (.int .i64 cp2)).setCell ⟨h, 3, none⟩ (.int .i64 st2)).setCell ⟨h, 4, none⟩ (.int .i64 en2)) = w3 at *
    clear x0 x1 x2 x3 x4 x5 x6 x7 x8 x9 y0 y1 y2 y3 y4 hf hf2 hob hoc hb2 cR cV
    have q0 := hM.cell 0
    have q1 := hM.cell 1
    simp at q0 q1
    go_upto_block 0 with fail
    go_cut [7, 8] from 24 to 62 (fun s7 s8 wx => s7 = .pointer (some ⟨g, 0, none⟩) ∧ s8 = .pointer (some ⟨h, 0, none⟩) ∧ (∃ fxx fyx txx tyx pex plx dex dlx ldx svx : Int, At wx g 27 #[.int .i64 fxx, .int .i64 fyx, .int .i64 txx, .int .i64 tyx, .int .i64 pex, .int .i64 plx, .int .i64 dex, .int .i64 dlx, .int .i64 ldx, .int .i64 svx]) ∧ (∃ hxx hyx cpx stx enx : Int, At wx h 29 #[.int .i64 hxx, .int .i64 hyx, .int .i64 cpx, .int .i64 stx, .int .i64 enx]) ∧ At wx w.heap.size 27 #[.int .i64 fx, .int .i64 fy, .int .i64 tx, .int .i64 ty, .int .i64 pe, .int .i64 pl, .int .i64 de, .int .i64 dl, .int .i64 ld, .int .i64 sv] ∧ At wx (w.heap.size + 1) 29 #[.int .i64 hx, .int .i64 hy, .int .i64 cp, .int .i64 st, .int .i64 en] ∧ Below w.heap.size w wx)
    case first =>
      have hf := hX.free
      have hf2 := hY.free
      have x0 := hX.cell 0
      have x1 := hX.cell 1
      have x2 := hX.cell 2
      have x3 := hX.cell 3
      have x4 := hX.cell 4
      have x5 := hX.cell 5
      have x6 := hX.cell 6
      have x7 := hX.cell 7
      have x8 := hX.cell 8
      have x9 := hX.cell 9
      simp at x0 x1 x2 x3 x4 x5 x6 x7 x8 x9
      have y0 := hY.cell 0
      have y1 := hY.cell 1
      have y2 := hY.cell 2
      have y3 := hY.cell 3
      have y4 := hY.cell 4
      simp at y0 y1 y2 y3 y4
      go_wp2_with fail
      all_goals go_meet
      · exact ⟨rfl, rfl, ⟨o1, fy2, tx2, ty2, pe2, pl2, de2, dl2, ld2, sv2, by simpa using hX.put 0 (.int .i64 o1)⟩, ⟨hx2, hy2, cp2, st2, en2, hY.far (Ne.symm hgh) 0 _⟩, hP.far (by omega) 0 _, hV.far (by omega) 0 _, Below.setCell hB (by show w.heap.size ≤ g; omega) _⟩
      · exact ⟨rfl, rfl, ⟨fx2, fy2, tx2, o1, pe2, pl2, de2, dl2, ld2, sv2, by simpa using hX.put 3 (.int .i64 o1)⟩, ⟨hx2, hy2, cp2, st2, en2, hY.far (Ne.symm hgh) 3 _⟩, hP.far (by omega) 3 _, hV.far (by omega) 3 _, Below.setCell hB (by show w.heap.size ≤ g; omega) _⟩
      · exact ⟨rfl, rfl, ⟨fx2, fy2, tx2, ty2, o1, pl2, de2, dl2, ld2, sv2, by simpa using hX.put 4 (.int .i64 o1)⟩, ⟨hx2, hy2, cp2, st2, en2, hY.far (Ne.symm hgh) 4 _⟩, hP.far (by omega) 4 _, hV.far (by omega) 4 _, Below.setCell hB (by show w.heap.size ≤ g; omega) _⟩
      · exact ⟨rfl, rfl, ⟨fx2, fy2, tx2, ty2, pe2, pl2, de2, o1, ld2, sv2, by simpa using hX.put 7 (.int .i64 o1)⟩, ⟨hx2, hy2, cp2, st2, en2, hY.far (Ne.symm hgh) 7 _⟩, hP.far (by omega) 7 _, hV.far (by omega) 7 _, Below.setCell hB (by show w.heap.size ≤ g; omega) _⟩
      · exact ⟨rfl, rfl, ⟨fx2, fy2, tx2, ty2, pe2, pl2, de2, dl2, o1, sv2, by simpa using hX.put 8 (.int .i64 o1)⟩, ⟨hx2, hy2, cp2, st2, en2, hY.far (Ne.symm hgh) 8 _⟩, hP.far (by omega) 8 _, hV.far (by omega) 8 _, Below.setCell hB (by show w.heap.size ≤ g; omega) _⟩
      · exact ⟨rfl, rfl, ⟨fx2, fy2, tx2, ty2, pe2, pl2, de2, dl2, ld2, o1, by simpa using hX.put 9 (.int .i64 o1)⟩, ⟨hx2, hy2, cp2, st2, en2, hY.far (Ne.symm hgh) 9 _⟩, hP.far (by omega) 9 _, hV.far (by omega) 9 _, Below.setCell hB (by show w.heap.size ≤ g; omega) _⟩
      · exact ⟨rfl, rfl, ⟨fx2, fy2, tx2, ty2, pe2, pl2, de2, dl2, ld2, sv2, hX.far hgh 0 _⟩, ⟨o1, hy2, cp2, st2, en2, by simpa using hY.put 0 (.int .i64 o1)⟩, hP.far (by omega) 0 _, hV.far (by omega) 0 _, Below.setCell hB (by show w.heap.size ≤ h; omega) _⟩
      · exact ⟨rfl, rfl, ⟨fx2, fy2, tx2, ty2, pe2, pl2, de2, dl2, ld2, sv2, hX.far hgh 2 _⟩, ⟨hx2, hy2, o1, st2, en2, by simpa using hY.put 2 (.int .i64 o1)⟩, hP.far (by omega) 2 _, hV.far (by omega) 2 _, Below.setCell hB (by show w.heap.size ≤ h; omega) _⟩
      · exact ⟨rfl, rfl, ⟨fx2, fy2, tx2, ty2, pe2, pl2, de2, dl2, ld2, sv2, hX.far hgh 4 _⟩, ⟨hx2, hy2, cp2, st2, o1, by simpa using hY.put 4 (.int .i64 o1)⟩, hP.far (by omega) 4 _, hV.far (by omega) 4 _, Below.setCell hB (by show w.heap.size ≤ h; omega) _⟩
    case rest =>
      obtain ⟨rfl, rfl, ⟨fxx, fyx, txx, tyx, pex, plx, dex, dlx, ldx, svx, hX⟩, ⟨hxx, hyx, cpx, stx, enx, hY⟩, hP, hV, hB⟩ := hcut
      have c0 := hP.cell 0
      have c1 := hP.cell 1
      have c2 := hP.cell 2
      have c3 := hP.cell 3
      have c4 := hP.cell 4
      have c5 := hP.cell 5
      have c6 := hP.cell 6
      have c7 := hP.cell 7
      have c8 := hP.cell 8
      have c9 := hP.cell 9
      simp at c0 c1 c2 c3 c4 c5 c6 c7 c8 c9
      have x0 := hX.cell 0
      have x1 := hX.cell 1
      have x2 := hX.cell 2
      have x3 := hX.cell 3
      have x4 := hX.cell 4
      have x5 := hX.cell 5
      have x6 := hX.cell 6
      have x7 := hX.cell 7
      have x8 := hX.cell 8
      have x9 := hX.cell 9
      simp at x0 x1 x2 x3 x4 x5 x6 x7 x8 x9
      have kc0 := cell_regrown c0
      have kc1 := cell_regrown c1
      have kc2 := cell_regrown c2
      have kc3 := cell_regrown c3
      have kc4 := cell_regrown c4
      have kc5 := cell_regrown c5
      have kc6 := cell_regrown c6
      have kc7 := cell_regrown c7
      have kc8 := cell_regrown c8
      have kc9 := cell_regrown c9
      have kx0 := cell_regrown x0
      have kx1 := cell_regrown x1
      have kx2 := cell_regrown x2
      have kx3 := cell_regrown x3
      have kx4 := cell_regrown x4
      have kx5 := cell_regrown x5
      have kx6 := cell_regrown x6
      have kx7 := cell_regrown x7
      have kx8 := cell_regrown x8
      have kx9 := cell_regrown x9
      go_wp2_with fail
      have kR3 := fun d os => Calls.regrown_of (cR3 (grow (redrawn wc d) os))
      refine wp_region_quiet_below (by kernel_rfl) (by kernel_rfl) ?_
      repeat (go_big_quiet_step (with_reducible exact kR3 _ _))
      refine wpQuiet_nil ?_
      intro _ hw'
      obtain ⟨⟨dq, osq⟩, hw''⟩ := hw'
      subst hw''
      replace hV := hV.keep (below_regrown wc dq osq) hV.inside
      replace hY := hY.keep (below_regrown wc dq osq) hY.inside
      replace hB := hB.trans ((below_regrown wc dq osq).mono hB.size)
      generalize grow (redrawn wc dq) osq = w5 at *
      clear kR3 cR3 hP hX c0 kc0 x0 kx0 c1 kc1 x1 kx1 c2 kc2 x2 kx2 c3 kc3 x3 kx3 c4 kc4 x4 kx4 c5 kc5 x5 kx5 c6 kc6 x6 kx6 c7 kc7 x7 kx7 c8 kc8 x8 kx8 c9 kc9 x9 kx9
      obtain ⟨C1, hC1⟩ : ∃ C, chk fx fy tx ty pe pl de dl ld sv = C := ⟨_, rfl⟩
      have kC1 := fun w => Check_any fx fy tx ty pe pl de dl ld sv w
      have kD1 := fun w => refCheck_any fx fy tx ty pe pl de dl ld sv w
      rw [hC1] at kC1 kD1
      clear hC1
      obtain ⟨C2, hC2⟩ : ∃ C, chk fxx fyx txx tyx pex plx dex dlx ldx svx = C := ⟨_, rfl⟩
      have kC2 := fun w => Check_any fxx fyx txx tyx pex plx dex dlx ldx svx w
      have kD2 := fun w => refCheck_any fxx fyx txx tyx pex plx dex dlx ldx svx w
      rw [hC2] at kC2 kD2
      clear hC2
      obtain ⟨C3, hC3⟩ : ∃ C, chk fx3 fy3 tx3 ty3 pe3 pl3 de3 dl3 ld3 sv3 = C := ⟨_, rfl⟩
      have kC3 := fun w => Check_any fx3 fy3 tx3 ty3 pe3 pl3 de3 dl3 ld3 sv3 w
      have kD3 := fun w => refCheck_any fx3 fy3 tx3 ty3 pe3 pl3 de3 dl3 ld3 sv3 w
      rw [hC3] at kC3 kD3
      clear hC3
      have ix0 : ∀ w, (Instr.index 34 (.agg #[.int .i64 fx, .int .i64 fy, .int .i64 tx, .int .i64 ty, .int .i64 pe, .int .i64 pl, .int .i64 de, .int .i64 dl, .int .i64 ld, .int .i64 sv, .int .i64 fxx, .int .i64 fyx, .int .i64 txx, .int .i64 tyx, .int .i64 pex, .int .i64 plx, .int .i64 dex, .int .i64 dlx, .int .i64 ldx, .int .i64 svx, .int .i64 fx3, .int .i64 fy3, .int .i64 tx3, .int .i64 ty3, .int .i64 pe3, .int .i64 pl3, .int .i64 de3, .int .i64 dl3, .int .i64 ld3, .int .i64 sv3]) (.int .i64 0)).run Try.prog w = .ok (.agg #[.int .i64 fx, .int .i64 fy, .int .i64 tx, .int .i64 ty, .int .i64 pe, .int .i64 pl, .int .i64 de, .int .i64 dl, .int .i64 ld, .int .i64 sv]) w := fun _ => by kernel_rfl
      have ix1 : ∀ w, (Instr.index 34 (.agg #[.int .i64 fx, .int .i64 fy, .int .i64 tx, .int .i64 ty, .int .i64 pe, .int .i64 pl, .int .i64 de, .int .i64 dl, .int .i64 ld, .int .i64 sv, .int .i64 fxx, .int .i64 fyx, .int .i64 txx, .int .i64 tyx, .int .i64 pex, .int .i64 plx, .int .i64 dex, .int .i64 dlx, .int .i64 ldx, .int .i64 svx, .int .i64 fx3, .int .i64 fy3, .int .i64 tx3, .int .i64 ty3, .int .i64 pe3, .int .i64 pl3, .int .i64 de3, .int .i64 dl3, .int .i64 ld3, .int .i64 sv3]) (.int .i64 1)).run Try.prog w = .ok (.agg #[.int .i64 fxx, .int .i64 fyx, .int .i64 txx, .int .i64 tyx, .int .i64 pex, .int .i64 plx, .int .i64 dex, .int .i64 dlx, .int .i64 ldx, .int .i64 svx]) w := fun _ => by kernel_rfl
      have ix2 : ∀ w, (Instr.index 34 (.agg #[.int .i64 fx, .int .i64 fy, .int .i64 tx, .int .i64 ty, .int .i64 pe, .int .i64 pl, .int .i64 de, .int .i64 dl, .int .i64 ld, .int .i64 sv, .int .i64 fxx, .int .i64 fyx, .int .i64 txx, .int .i64 tyx, .int .i64 pex, .int .i64 plx, .int .i64 dex, .int .i64 dlx, .int .i64 ldx, .int .i64 svx, .int .i64 fx3, .int .i64 fy3, .int .i64 tx3, .int .i64 ty3, .int .i64 pe3, .int .i64 pl3, .int .i64 de3, .int .i64 dl3, .int .i64 ld3, .int .i64 sv3]) (.int .i64 2)).run Try.prog w = .ok (.agg #[.int .i64 fx3, .int .i64 fy3, .int .i64 tx3, .int .i64 ty3, .int .i64 pe3, .int .i64 pl3, .int .i64 de3, .int .i64 dl3, .int .i64 ld3, .int .i64 sv3]) w := fun _ => by kernel_rfl
      go_wp2_with fail
      refine wp_loop_rounds 4 ?_
      rw [rounds_succ]
      go_wp2_with fail
      have hZ := At.new w5 27 #[.int .i64 fx, .int .i64 fy, .int .i64 tx, .int .i64 ty, .int .i64 pe, .int .i64 pl, .int .i64 de, .int .i64 dl, .int .i64 ld, .int .i64 sv]
      replace hV := hV.alloc (.cells #[.int .i64 fx, .int .i64 fy, .int .i64 tx, .int .i64 ty, .int .i64 pe, .int .i64 pl, .int .i64 de, .int .i64 dl, .int .i64 ld, .int .i64 sv] 27)
      replace hY := hY.alloc (.cells #[.int .i64 fx, .int .i64 fy, .int .i64 tx, .int .i64 ty, .int .i64 pe, .int .i64 pl, .int .i64 de, .int .i64 dl, .int .i64 ld, .int .i64 sv] 27)
      replace hB := hB.alloc hB.size (.cells #[.int .i64 fx, .int .i64 fy, .int .i64 tx, .int .i64 ty, .int .i64 pe, .int .i64 pl, .int .i64 de, .int .i64 dl, .int .i64 ld, .int .i64 sv] 27)
      generalize (w5.alloc (.cells #[.int .i64 fx, .int .i64 fy, .int .i64 tx, .int .i64 ty, .int .i64 pe, .int .i64 pl, .int .i64 de, .int .i64 dl, .int .i64 ld, .int .i64 sv] 27)) = w6 at *
      have z0 := hZ.cell 0
      have z1 := hZ.cell 1
      have z2 := hZ.cell 2
      have z3 := hZ.cell 3
      have z4 := hZ.cell 4
      have z5 := hZ.cell 5
      have z6 := hZ.cell 6
      have z7 := hZ.cell 7
      have z8 := hZ.cell 8
      have z9 := hZ.cell 9
      simp at z0 z1 z2 z3 z4 z5 z6 z7 z8 z9
      have kz0 := cell_regrown z0
      have kz1 := cell_regrown z1
      have kz2 := cell_regrown z2
      have kz3 := cell_regrown z3
      have kz4 := cell_regrown z4
      have kz5 := cell_regrown z5
      have kz6 := cell_regrown z6
      have kz7 := cell_regrown z7
      have kz8 := cell_regrown z8
      have kz9 := cell_regrown z9
      have kkC := fun d os => Calls.regrown_of (kC1 (grow (redrawn w6 d) os))
      have kkD := fun d os => Calls.regrown_of (kD1 (grow (redrawn w6 d) os))
      refine wp_region_quiet_below (by kernel_rfl) (by kernel_rfl) ?_
      repeat (go_big_quiet_step (first | with_reducible exact kkC _ _ | with_reducible exact kkD _ _))
      refine wpQuiet_nil ?_
      intro _ hw'
      obtain ⟨⟨dq, osq⟩, hw''⟩ := hw'
      subst hw''
      replace hV := hV.keep (below_regrown w6 dq osq) hV.inside
      replace hY := hY.keep (below_regrown w6 dq osq) hY.inside
      replace hB := hB.trans ((below_regrown w6 dq osq).mono hB.size)
      generalize grow (redrawn w6 dq) osq = w7 at *
      clear kkC kkD hZ kC1 kD1 z0 kz0 z1 kz1 z2 kz2 z3 kz3 z4 kz4 z5 kz5 z6 kz6 z7 kz7 z8 kz8 z9 kz9
      go_wp2_with fail
      rw [rounds_succ]
      go_wp2_with fail
      have hZ := At.new w7 27 #[.int .i64 fxx, .int .i64 fyx, .int .i64 txx, .int .i64 tyx, .int .i64 pex, .int .i64 plx, .int .i64 dex, .int .i64 dlx, .int .i64 ldx, .int .i64 svx]
      replace hV := hV.alloc (.cells #[.int .i64 fxx, .int .i64 fyx, .int .i64 txx, .int .i64 tyx, .int .i64 pex, .int .i64 plx, .int .i64 dex, .int .i64 dlx, .int .i64 ldx, .int .i64 svx] 27)
      replace hY := hY.alloc (.cells #[.int .i64 fxx, .int .i64 fyx, .int .i64 txx, .int .i64 tyx, .int .i64 pex, .int .i64 plx, .int .i64 dex, .int .i64 dlx, .int .i64 ldx, .int .i64 svx] 27)
      replace hB := hB.alloc hB.size (.cells #[.int .i64 fxx, .int .i64 fyx, .int .i64 txx, .int .i64 tyx, .int .i64 pex, .int .i64 plx, .int .i64 dex, .int .i64 dlx, .int .i64 ldx, .int .i64 svx] 27)
      generalize (w7.alloc (.cells #[.int .i64 fxx, .int .i64 fyx, .int .i64 txx, .int .i64 tyx, .int .i64 pex, .int .i64 plx, .int .i64 dex, .int .i64 dlx, .int .i64 ldx, .int .i64 svx] 27)) = w8 at *
      have z0 := hZ.cell 0
      have z1 := hZ.cell 1
      have z2 := hZ.cell 2
      have z3 := hZ.cell 3
      have z4 := hZ.cell 4
      have z5 := hZ.cell 5
      have z6 := hZ.cell 6
      have z7 := hZ.cell 7
      have z8 := hZ.cell 8
      have z9 := hZ.cell 9
      simp at z0 z1 z2 z3 z4 z5 z6 z7 z8 z9
      have kz0 := cell_regrown z0
      have kz1 := cell_regrown z1
      have kz2 := cell_regrown z2
      have kz3 := cell_regrown z3
      have kz4 := cell_regrown z4
      have kz5 := cell_regrown z5
      have kz6 := cell_regrown z6
      have kz7 := cell_regrown z7
      have kz8 := cell_regrown z8
      have kz9 := cell_regrown z9
      have kkC := fun d os => Calls.regrown_of (kC2 (grow (redrawn w8 d) os))
      have kkD := fun d os => Calls.regrown_of (kD2 (grow (redrawn w8 d) os))
      refine wp_region_quiet_below (by kernel_rfl) (by kernel_rfl) ?_
      repeat (go_big_quiet_step (first | with_reducible exact kkC _ _ | with_reducible exact kkD _ _))
      refine wpQuiet_nil ?_
      intro _ hw'
      obtain ⟨⟨dq, osq⟩, hw''⟩ := hw'
      subst hw''
      replace hV := hV.keep (below_regrown w8 dq osq) hV.inside
      replace hY := hY.keep (below_regrown w8 dq osq) hY.inside
      replace hB := hB.trans ((below_regrown w8 dq osq).mono hB.size)
      generalize grow (redrawn w8 dq) osq = w9 at *
      clear kkC kkD hZ kC2 kD2 z0 kz0 z1 kz1 z2 kz2 z3 kz3 z4 kz4 z5 kz5 z6 kz6 z7 kz7 z8 kz8 z9 kz9
      go_wp2_with fail
      rw [rounds_succ]
      go_wp2_with fail
      have hZ := At.new w9 27 #[.int .i64 fx3, .int .i64 fy3, .int .i64 tx3, .int .i64 ty3, .int .i64 pe3, .int .i64 pl3, .int .i64 de3, .int .i64 dl3, .int .i64 ld3, .int .i64 sv3]
      replace hV := hV.alloc (.cells #[.int .i64 fx3, .int .i64 fy3, .int .i64 tx3, .int .i64 ty3, .int .i64 pe3, .int .i64 pl3, .int .i64 de3, .int .i64 dl3, .int .i64 ld3, .int .i64 sv3] 27)
      replace hY := hY.alloc (.cells #[.int .i64 fx3, .int .i64 fy3, .int .i64 tx3, .int .i64 ty3, .int .i64 pe3, .int .i64 pl3, .int .i64 de3, .int .i64 dl3, .int .i64 ld3, .int .i64 sv3] 27)
      replace hB := hB.alloc hB.size (.cells #[.int .i64 fx3, .int .i64 fy3, .int .i64 tx3, .int .i64 ty3, .int .i64 pe3, .int .i64 pl3, .int .i64 de3, .int .i64 dl3, .int .i64 ld3, .int .i64 sv3] 27)
      generalize (w9.alloc (.cells #[.int .i64 fx3, .int .i64 fy3, .int .i64 tx3, .int .i64 ty3, .int .i64 pe3, .int .i64 pl3, .int .i64 de3, .int .i64 dl3, .int .i64 ld3, .int .i64 sv3] 27)) = w10 at *
      have z0 := hZ.cell 0
      have z1 := hZ.cell 1
      have z2 := hZ.cell 2
      have z3 := hZ.cell 3
      have z4 := hZ.cell 4
      have z5 := hZ.cell 5
      have z6 := hZ.cell 6
      have z7 := hZ.cell 7
      have z8 := hZ.cell 8
      have z9 := hZ.cell 9
      simp at z0 z1 z2 z3 z4 z5 z6 z7 z8 z9
      have kz0 := cell_regrown z0
      have kz1 := cell_regrown z1
      have kz2 := cell_regrown z2
      have kz3 := cell_regrown z3
      have kz4 := cell_regrown z4
      have kz5 := cell_regrown z5
      have kz6 := cell_regrown z6
      have kz7 := cell_regrown z7
      have kz8 := cell_regrown z8
      have kz9 := cell_regrown z9
      have kkC := fun d os => Calls.regrown_of (kC3 (grow (redrawn w10 d) os))
      have kkD := fun d os => Calls.regrown_of (kD3 (grow (redrawn w10 d) os))
      refine wp_region_quiet_below (by kernel_rfl) (by kernel_rfl) ?_
      repeat (go_big_quiet_step (first | with_reducible exact kkC _ _ | with_reducible exact kkD _ _))
      refine wpQuiet_nil ?_
      intro _ hw'
      obtain ⟨⟨dq, osq⟩, hw''⟩ := hw'
      subst hw''
      replace hV := hV.keep (below_regrown w10 dq osq) hV.inside
      replace hY := hY.keep (below_regrown w10 dq osq) hY.inside
      replace hB := hB.trans ((below_regrown w10 dq osq).mono hB.size)
      generalize grow (redrawn w10 dq) osq = w11 at *
      clear kkC kkD hZ kC3 kD3 z0 kz0 z1 kz1 z2 kz2 z3 kz3 z4 kz4 z5 kz5 z6 kz6 z7 kz7 z8 kz8 z9 kz9
      go_wp2_with fail
      rw [rounds_succ]
      have c0 := hV.cell 0
      have c1 := hV.cell 1
      have c2 := hV.cell 2
      have c3 := hV.cell 3
      have c4 := hV.cell 4
      simp at c0 c1 c2 c3 c4
      have x0 := hY.cell 0
      have x1 := hY.cell 1
      have x2 := hY.cell 2
      have x3 := hY.cell 3
      have x4 := hY.cell 4
      simp at x0 x1 x2 x3 x4
      go_wp2_with fail
      have kc0 := cell_regrown c0
      have kc1 := cell_regrown c1
      have kc2 := cell_regrown c2
      have kc3 := cell_regrown c3
      have kc4 := cell_regrown c4
      have kx0 := cell_regrown x0
      have kx1 := cell_regrown x1
      have kx2 := cell_regrown x2
      have kx3 := cell_regrown x3
      have kx4 := cell_regrown x4
      have kV3 := fun d os => Calls.regrown_of (cV3 (grow (redrawn w11 d) os))
      refine wp_region_quiet_below (by kernel_rfl) (by kernel_rfl) ?_
      repeat (go_big_quiet_step (with_reducible exact kV3 _ _))
      refine wpQuiet_nil ?_
      intro _ hw'
      obtain ⟨⟨dq, osq⟩, hw''⟩ := hw'
      subst hw''
      replace hB := hB.trans ((below_regrown w11 dq osq).mono hB.size)
      generalize grow (redrawn w11 dq) osq = w12 at *
      clear kV3 cV3 hV hY c0 kc0 x0 kx0 c1 kc1 x1 kx1 c2 kc2 x2 kx2 c3 kc3 x3 kx3 c4 kc4 x4 kx4
      clear ix0 ix1 ix2
      obtain ⟨C4, hC4⟩ : ∃ C, veh hx hy cp st en = C := ⟨_, rfl⟩
      have kC4 := fun w => Vehicle_any hx hy cp st en w
      have kD4 := fun w => refVehicle_any hx hy cp st en w
      rw [hC4] at kC4 kD4
      clear hC4
      obtain ⟨C5, hC5⟩ : ∃ C, veh hxx hyx cpx stx enx = C := ⟨_, rfl⟩
      have kC5 := fun w => Vehicle_any hxx hyx cpx stx enx w
      have kD5 := fun w => refVehicle_any hxx hyx cpx stx enx w
      rw [hC5] at kC5 kD5
      clear hC5
      obtain ⟨C6, hC6⟩ : ∃ C, veh hx3 hy3 cp3 st3 en3 = C := ⟨_, rfl⟩
      have kC6 := fun w => Vehicle_any hx3 hy3 cp3 st3 en3 w
      have kD6 := fun w => refVehicle_any hx3 hy3 cp3 st3 en3 w
      rw [hC6] at kC6 kD6
      clear hC6
      have ix0 : ∀ w, (Instr.index 37 (.agg #[.int .i64 hx, .int .i64 hy, .int .i64 cp, .int .i64 st, .int .i64 en, .int .i64 hxx, .int .i64 hyx, .int .i64 cpx, .int .i64 stx, .int .i64 enx, .int .i64 hx3, .int .i64 hy3, .int .i64 cp3, .int .i64 st3, .int .i64 en3]) (.int .i64 0)).run Try.prog w = .ok (.agg #[.int .i64 hx, .int .i64 hy, .int .i64 cp, .int .i64 st, .int .i64 en]) w := fun _ => by kernel_rfl
      have ix1 : ∀ w, (Instr.index 37 (.agg #[.int .i64 hx, .int .i64 hy, .int .i64 cp, .int .i64 st, .int .i64 en, .int .i64 hxx, .int .i64 hyx, .int .i64 cpx, .int .i64 stx, .int .i64 enx, .int .i64 hx3, .int .i64 hy3, .int .i64 cp3, .int .i64 st3, .int .i64 en3]) (.int .i64 1)).run Try.prog w = .ok (.agg #[.int .i64 hxx, .int .i64 hyx, .int .i64 cpx, .int .i64 stx, .int .i64 enx]) w := fun _ => by kernel_rfl
      have ix2 : ∀ w, (Instr.index 37 (.agg #[.int .i64 hx, .int .i64 hy, .int .i64 cp, .int .i64 st, .int .i64 en, .int .i64 hxx, .int .i64 hyx, .int .i64 cpx, .int .i64 stx, .int .i64 enx, .int .i64 hx3, .int .i64 hy3, .int .i64 cp3, .int .i64 st3, .int .i64 en3]) (.int .i64 2)).run Try.prog w = .ok (.agg #[.int .i64 hx3, .int .i64 hy3, .int .i64 cp3, .int .i64 st3, .int .i64 en3]) w := fun _ => by kernel_rfl
      go_wp2_with fail
      refine wp_loop_rounds 4 ?_
      rw [rounds_succ]
      go_wp2_with fail
      have hZ := At.new w12 29 #[.int .i64 hx, .int .i64 hy, .int .i64 cp, .int .i64 st, .int .i64 en]
      replace hB := hB.alloc hB.size (.cells #[.int .i64 hx, .int .i64 hy, .int .i64 cp, .int .i64 st, .int .i64 en] 29)
      generalize (w12.alloc (.cells #[.int .i64 hx, .int .i64 hy, .int .i64 cp, .int .i64 st, .int .i64 en] 29)) = w13 at *
      have z0 := hZ.cell 0
      have z1 := hZ.cell 1
      have z2 := hZ.cell 2
      have z3 := hZ.cell 3
      have z4 := hZ.cell 4
      simp at z0 z1 z2 z3 z4
      have kz0 := cell_regrown z0
      have kz1 := cell_regrown z1
      have kz2 := cell_regrown z2
      have kz3 := cell_regrown z3
      have kz4 := cell_regrown z4
      have kkC := fun d os => Calls.regrown_of (kC4 (grow (redrawn w13 d) os))
      have kkD := fun d os => Calls.regrown_of (kD4 (grow (redrawn w13 d) os))
      refine wp_region_quiet_below (by kernel_rfl) (by kernel_rfl) ?_
      repeat (go_big_quiet_step (first | with_reducible exact kkC _ _ | with_reducible exact kkD _ _))
      refine wpQuiet_nil ?_
      intro _ hw'
      obtain ⟨⟨dq, osq⟩, hw''⟩ := hw'
      subst hw''
      replace hB := hB.trans ((below_regrown w13 dq osq).mono hB.size)
      generalize grow (redrawn w13 dq) osq = w14 at *
      clear kkC kkD hZ kC4 kD4 z0 kz0 z1 kz1 z2 kz2 z3 kz3 z4 kz4
      go_wp2_with fail
      rw [rounds_succ]
      go_wp2_with fail
      have hZ := At.new w14 29 #[.int .i64 hxx, .int .i64 hyx, .int .i64 cpx, .int .i64 stx, .int .i64 enx]
      replace hB := hB.alloc hB.size (.cells #[.int .i64 hxx, .int .i64 hyx, .int .i64 cpx, .int .i64 stx, .int .i64 enx] 29)
      generalize (w14.alloc (.cells #[.int .i64 hxx, .int .i64 hyx, .int .i64 cpx, .int .i64 stx, .int .i64 enx] 29)) = w15 at *
      have z0 := hZ.cell 0
      have z1 := hZ.cell 1
      have z2 := hZ.cell 2
      have z3 := hZ.cell 3
      have z4 := hZ.cell 4
      simp at z0 z1 z2 z3 z4
      have kz0 := cell_regrown z0
      have kz1 := cell_regrown z1
      have kz2 := cell_regrown z2
      have kz3 := cell_regrown z3
      have kz4 := cell_regrown z4
      have kkC := fun d os => Calls.regrown_of (kC5 (grow (redrawn w15 d) os))
      have kkD := fun d os => Calls.regrown_of (kD5 (grow (redrawn w15 d) os))
      refine wp_region_quiet_below (by kernel_rfl) (by kernel_rfl) ?_
      repeat (go_big_quiet_step (first | with_reducible exact kkC _ _ | with_reducible exact kkD _ _))
      refine wpQuiet_nil ?_
      intro _ hw'
      obtain ⟨⟨dq, osq⟩, hw''⟩ := hw'
      subst hw''
      replace hB := hB.trans ((below_regrown w15 dq osq).mono hB.size)
      generalize grow (redrawn w15 dq) osq = w16 at *
      clear kkC kkD hZ kC5 kD5 z0 kz0 z1 kz1 z2 kz2 z3 kz3 z4 kz4
      go_wp2_with fail
      rw [rounds_succ]
      go_wp2_with fail
      have hZ := At.new w16 29 #[.int .i64 hx3, .int .i64 hy3, .int .i64 cp3, .int .i64 st3, .int .i64 en3]
      replace hB := hB.alloc hB.size (.cells #[.int .i64 hx3, .int .i64 hy3, .int .i64 cp3, .int .i64 st3, .int .i64 en3] 29)
      generalize (w16.alloc (.cells #[.int .i64 hx3, .int .i64 hy3, .int .i64 cp3, .int .i64 st3, .int .i64 en3] 29)) = w17 at *
      have z0 := hZ.cell 0
      have z1 := hZ.cell 1
      have z2 := hZ.cell 2
      have z3 := hZ.cell 3
      have z4 := hZ.cell 4
      simp at z0 z1 z2 z3 z4
      have kz0 := cell_regrown z0
      have kz1 := cell_regrown z1
      have kz2 := cell_regrown z2
      have kz3 := cell_regrown z3
      have kz4 := cell_regrown z4
      have kkC := fun d os => Calls.regrown_of (kC6 (grow (redrawn w17 d) os))
      have kkD := fun d os => Calls.regrown_of (kD6 (grow (redrawn w17 d) os))
      refine wp_region_quiet_below (by kernel_rfl) (by kernel_rfl) ?_
      repeat (go_big_quiet_step (first | with_reducible exact kkC _ _ | with_reducible exact kkD _ _))
      refine wpQuiet_nil ?_
      intro _ hw'
      obtain ⟨⟨dq, osq⟩, hw''⟩ := hw'
      subst hw''
      replace hB := hB.trans ((below_regrown w17 dq osq).mono hB.size)
      generalize grow (redrawn w17 dq) osq = w18 at *
      clear kkC kkD hZ kC6 kD6 z0 kz0 z1 kz1 z2 kz2 z3 kz3 z4 kz4
      go_wp2_with fail
      rw [rounds_succ]
      go_wp2_with fail
      refine (works_any _).mono ?_
      rintro e w19 ⟨rfl, hb⟩
      replace hB := hB.trans (hb.mono hB.size)
      go_wp2
      go_ret
      exact ⟨rfl, hB⟩
set_option maxRecDepth 100000 in
theorem lifted (os : Os) (started : os.Started) (H : Type) (enc : TypeId × Value → H) :
    ReturnsInHanded {} Try.checked os 3 .any (Rows.orderChecksSpec.pre6 enc Try.prog Try.f3 Rows.orderChecksRow.domain false) (Rows.orderChecksSpec.post enc Try.prog Try.f3 false true false false) := by
  refine returnsInHanded_of_change (C := Try.checked) own started (by kernel_rfl) Try.func3
    (ChangeSpec.witness6 (enc := enc) (C := Try.checked) false ⟨#[], #[.agg #[.int .i64 0, .int .i64 0, .int .i64 0, .int .i64 0, .int .i64 0, .int .i64 0, .int .i64 0, .int .i64 0, .int .i64 0, .int .i64 0], .agg #[.int .i64 0, .int .i64 0, .int .i64 0, .int .i64 0, .int .i64 0], .agg #[.int .i64 0, .int .i64 0]], []⟩ 8 (by kernel_rfl) (by kernel_rfl) (by kernel_rfl) (by kernel_rfl)) ?_
  intro W base args ds gs before hval0 hW hcnd _
  have hval : ∀ (j : Nat) t v, Try.f3.params[j]? = some t → args[j]? = some v → Value.okWide Try.prog W .any base t v := hval0
  have hW' := hW
  obtain ⟨p, q, hA0, hV, rfl, hfz, hnd⟩ := hW
  have hA : DataW.TrodAll enc Try.prog W 0 (fun _ => true) true Try.f3.params.toList args.toList ds p := hA0
  rw [Try.params3] at hA hval
  obtain ⟨v0, vs0, d0, ds0, p0, q0, hargs, rfl, rfl, h0, r0⟩ := trodAll_cons hA
  obtain ⟨v1, vs1, d1, ds1, p1, q1, rfl, rfl, rfl, h1, r1⟩ := trodAll_cons r0
  obtain ⟨v2, vs2, d2, ds2, p2, q2, rfl, rfl, rfl, h2, r2⟩ := trodAll_cons r1
  obtain ⟨rfl, rfl, rfl⟩ := trodAll_nil r2
  obtain rfl : args = #[v0, v1, v2] := by cases args; simp_all
  obtain ⟨rfl, rfl⟩ := trodVars_none hV
  obtain ⟨fx, fy, tx, ty, pe, pl, de, dl, ld, sv, rfl, _⟩ := Order.openRequest (hval 0 27 v0 rfl rfl) h0
  obtain ⟨hx, hy, cp, st, en, rfl, wen⟩ := Order.openVehicle (hval 1 29 v1 rfl rfl) h1
  obtain ⟨xs, hl, hv, hxs⟩ := Close.open_numbers Try.underlying30 Try.underlying3 (by kernel_rfl) (by kernel_rfl) (hval 2 30 v2 rfl rfl) h2
  obtain ⟨o0, o1, rfl⟩ : ∃ a b, xs = [a, b] := by
    match xs, hl with
    | [a, b], _ => exact ⟨a, b, rfl⟩
  obtain rfl : v2 = .agg #[.int .i64 o0, .int .i64 o1] := by simpa using hv
  exact (walk fx fy tx ty pe pl de dl ld sv hx hy cp st en o0 o1 W).mono fun e W' ⟨he, hb⟩ => ⟨_, he, Close.law_post laidOut (by kernel_rfl) rfl (by kernel_rfl) Try.underlying4 hW' rfl hb⟩

theorem over : Rows.orderChecksRow.holds Try.pinned (OpenSpec.ofChange Rows.orderChecksSpec) :=
  OpenClaim.holds_of_wide 3 Try.f3 rfl rfl rfl rfl rfl rfl rfl ⟨rfl, rfl, rfl, rfl, rfl⟩ rfl rfl rfl rfl rfl (by kernel_rfl) Try.func3 (by kernel_rfl)
    (of_decide_eq_true (by kernel_rfl)) (by unfold Func.isWrapper; first | (rw [if_pos (by decide +kernel)]; kernel_rfl) | (rw [if_neg (by decide +kernel)]; exact ⟨rfl, rfl⟩))
    (fun os started H enc _ => lifted os started H enc)

theorem proved : Rows.OrderChecksSaid := over
#print axioms proved

end Go.Proofs.Ytcdgfjfomiokmaa.orderChecks
