/-
  The contract of the statements' own 'vehicle': one that may be, of one that is drawn.
-/
import Derived.Test.YtcdgfjfomiokmaaOrderRight
namespace Go.Proofs.Ytcdgfjfomiokmaa.Order
open Go.RowKit Go.Sort Go.Proofs.Ytcdgfjfomiokmaa.Mem Go.Proofs.Ytcdgfjfomiokmaa.Place Go.Proofs.Ytcdgfjfomiokmaa.Window Go.Proofs.Ytcdgfjfomiokmaa.Tail Go.Proofs.Ytcdgfjfomiokmaa.Float
set_option linter.unusedVariables false

theorem res_ve {fn : Func} {p : Tmp} (h : fn.results = #[.cell p 29]) {tmps : Array Value} {w : World} {g : Nat} {x0 x1 x2 x3 x4 : Value} (hp : tmps.getD p undef = .pointer (some ⟨g, 0, none⟩))
    (hA : At w g 29 #[x0, x1, x2, x3, x4]) : (results fn tmps).run Try.prog w = .ok (.agg #[x0, x1, x2, x3, x4]) w := by
  have hp' : tmps[p]?.getD undef = .pointer (some ⟨g, 0, none⟩) := by simpa using hp
  have c0 := hA.cell 0
  have c1 := hA.cell 1
  have c2 := hA.cell 2
  have c3 := hA.cell 3
  have c4 := hA.cell 4
  simp at c0 c1 c2 c3 c4
  simp only [results, h]
  go_simp
theorem put5 {w : World} {g : Nat} {t : TypeId} {x0 x1 x2 x3 x4 y0 y1 y2 y3 y4 : Value} (h : At w g t #[x0, x1, x2, x3, x4]) :
    At (((((w.setCell ⟨g, 0, none⟩ y0).setCell ⟨g, 1, none⟩ y1).setCell ⟨g, 2, none⟩ y2).setCell ⟨g, 3, none⟩ y3).setCell ⟨g, 4, none⟩ y4) g t #[y0, y1, y2, y3, y4] := by
  simpa using ((((h.put 0 y0).put 1 y1).put 2 y2).put 3 y3).put 4 y4

set_option maxHeartbeats 8000000 in
theorem vehicle_f (hx hy cp st en : Int) : ∃ hx2 hy2 cp2 st2 en2 : Int, (∀ w, Calls Try.prog 9 #[.agg #[.int .i64 hx, .int .i64 hy, .int .i64 cp, .int .i64 st, .int .i64 en], .bool false] w fun r w' => r = .returned (.agg #[.int .i64 hx2, .int .i64 hy2, .int .i64 cp2, .int .i64 st2, .int .i64 en2]) ∧ Below w.heap.size w w') := by
  obtain ⟨A0, hA0, hA0'⟩ : ∃ A, btwV hx 0 1023 = A ∧ 0 ≤ A ∧ A ≤ 1023 := ⟨_, rfl, btwV_bd _ _ _ (by omega)⟩
  obtain ⟨A1, hA1, hA1'⟩ : ∃ A, btwV hy 0 1023 = A ∧ 0 ≤ A ∧ A ≤ 1023 := ⟨_, rfl, btwV_bd _ _ _ (by omega)⟩
  obtain ⟨A2, hA2, hA2'⟩ : ∃ A, btwV cp 1 100000 = A ∧ 1 ≤ A ∧ A ≤ 100000 := ⟨_, rfl, btwV_bd _ _ _ (by omega)⟩
  have q1 := btwV_bd st 0 1048576 (by omega)
  have q2 := btwV_bd en 0 1048576 (by omega)
  obtain ⟨S0, hS0, hS0'⟩ : ∃ A, min (btwV st 0 1048576) (btwV en 0 1048576) = A ∧ 0 ≤ A ∧ A ≤ 1048576 := ⟨_, rfl, by omega⟩
  obtain ⟨S1, hS1, hS1'⟩ : ∃ A, max (btwV st 0 1048576) (btwV en 0 1048576) = A ∧ 0 ≤ A ∧ A ≤ 1048576 := ⟨_, rfl, by omega⟩
  have cH : ∀ w, Calls Try.prog 22 #[.agg #[.int .i64 hx, .int .i64 hy]] w fun r w' => r = .returned (.agg #[.int .i64 A0, .int .i64 A1]) ∧ Below w.heap.size w w' := fun w => by rw [← hA0, ← hA1]; exact lplace_any _ _ w
  have cC : ∀ w, Calls Try.prog 23 #[.int .i64 cp, .int .i64 1, .int .i64 100000] w fun r w' => r = .returned (.int .i64 A2) ∧ Below w.heap.size w w' := fun w => by rw [← hA2]; exact lbtw_1_100000 _ w
  have cW : ∀ w, Calls Try.prog 24 #[.agg #[.int .i64 st, .int .i64 en], .int .i64 1048576] w fun r w' => r = .returned (.agg #[.int .i64 S0, .int .i64 S1]) ∧ Below w.heap.size w w' := fun w => by rw [← hS0, ← hS1]; exact lwin_1048576 _ _ w
  clear hA0 hA1 hA2 hS0 hS1 q1 q2
  refine ⟨A0, A1, A2, S0, S1, ?_⟩
  intro w
  have hP : At (((w.alloc (.cells #[.int .i64 hx, .int .i64 hy, .int .i64 cp, .int .i64 st, .int .i64 en] 29)).alloc (.cells #[.int .i64 0, .int .i64 0, .int .i64 0, .int .i64 0, .int .i64 0] 29)).alloc (.cells #[.int .i64 st, .int .i64 en] 25)) w.heap.size 29 #[.int .i64 hx, .int .i64 hy, .int .i64 cp, .int .i64 st, .int .i64 en] := ((At.new w _ _).alloc _).alloc _
  have hS : At (((w.alloc (.cells #[.int .i64 hx, .int .i64 hy, .int .i64 cp, .int .i64 st, .int .i64 en] 29)).alloc (.cells #[.int .i64 0, .int .i64 0, .int .i64 0, .int .i64 0, .int .i64 0] 29)).alloc (.cells #[.int .i64 st, .int .i64 en] 25)) (w.heap.size + 1) 29 #[.int .i64 0, .int .i64 0, .int .i64 0, .int .i64 0, .int .i64 0] := (At.new_ _ _ _ (by simp)).alloc _
  have hM : At (((w.alloc (.cells #[.int .i64 hx, .int .i64 hy, .int .i64 cp, .int .i64 st, .int .i64 en] 29)).alloc (.cells #[.int .i64 0, .int .i64 0, .int .i64 0, .int .i64 0, .int .i64 0] 29)).alloc (.cells #[.int .i64 st, .int .i64 en] 25)) (w.heap.size + 1 + 1) 25 #[.int .i64 st, .int .i64 en] := At.new_ _ _ _ (by simp)
  have hB : Below w.heap.size w (((w.alloc (.cells #[.int .i64 hx, .int .i64 hy, .int .i64 cp, .int .i64 st, .int .i64 en] 29)).alloc (.cells #[.int .i64 0, .int .i64 0, .int .i64 0, .int .i64 0, .int .i64 0] 29)).alloc (.cells #[.int .i64 st, .int .i64 en] 25)) := by
    repeat (first | exact Below.refl _ _ | refine Below.alloc ?_ (by simp <;> omega) _)
  go_enter Try.func9, Try.ntmps9
  go_upto_region 2 with fail
  generalize (((w.alloc (.cells #[.int .i64 hx, .int .i64 hy, .int .i64 cp, .int .i64 st, .int .i64 en] 29)).alloc (.cells #[.int .i64 0, .int .i64 0, .int .i64 0, .int .i64 0, .int .i64 0] 29)).alloc (.cells #[.int .i64 st, .int .i64 en] 25)) = w1 at *
  have hsp := hP.inside
  have hss := hS.inside
  have hsm := hM.inside
  refine wp_region_float1 7 6 (.cells #[.int .i64 0, .int .i64 0, .int .i64 0, .int .i64 0, .int .i64 0] 29) ?af (by kernel_rfl) (by kernel_rfl) (by kernel_rfl) ?hL ?hW ?hT
  case hL =>
    intro o ho a wz
    have ho' := (Option.some.inj ho).symm
    subst ho'
    simp only [ptr]
    go_simp
  case hW =>
    intro w0 hw0
    have hP0 := hP.keep hw0 hP.inside
    have c0 := hP0.cell 0
    have c1 := hP0.cell 1
    have c2 := hP0.cell 2
    have c3 := hP0.cell 3
    have c4 := hP0.cell 4
    simp at c0 c1 c2 c3 c4
    have kc0 := cell_regrown c0
    have kc1 := cell_regrown c1
    have kc2 := cell_regrown c2
    have kc3 := cell_regrown c3
    have kc4 := cell_regrown c4
    have kH := fun d os => Calls.regrown_of (cH (grow (redrawn w0 d) os))
    have kC := fun d os => Calls.regrown_of (cC (grow (redrawn w0 d) os))
    simp only [List.take_succ_cons, List.take_zero]
    repeat (go_big_quiet_step (first | with_reducible exact kH _ _ | with_reducible exact kC _ _))
    refine wpQuiet_nil ?_
    rfl
  case hT =>
    intro g w2 hg hob hb2
    replace hB := hB.trans (hb2.mono hB.size)
    replace hS := hS.keep hb2 hS.inside
    replace hM := hM.keep hb2 hM.inside
    have hN : At w2 g 29 #[.int .i64 0, .int .i64 0, .int .i64 0, .int .i64 0, .int .i64 0] := hob
    have hgS : w.heap.size + 1 ≠ g := by omega
    have hgM : w.heap.size + 1 + 1 ≠ g := by omega
    have hwg : w.heap.size ≤ g := by omega
    have hgw := hN.inside
    simp only [List.drop_succ_cons, List.drop_zero]
    have m0 := hM.cell 0
    have m1 := hM.cell 1
    simp at m0 m1
    have n0 := hN.cell 0
    have n1 := hN.cell 1
    have n2 := hN.cell 2
    have n3 := hN.cell 3
    have n4 := hN.cell 4
    simp at n0 n1 n2 n3 n4
    have hf := hN.free
    go_wp2_with fail
    replace hN : At (((((w2.setCell ⟨g, 0, none⟩ (.int .i64 (A0))).setCell ⟨g, 1, none⟩ (.int .i64 (A1))).setCell ⟨g, 2, none⟩ (.int .i64 (A2))).setCell ⟨g, 3, none⟩ (.int .i64 (0))).setCell ⟨g, 4, none⟩ (.int .i64 (0))) g 29 #[.int .i64 A0, .int .i64 A1, .int .i64 A2, .int .i64 0, .int .i64 0] := by simpa using (((((hN.put 0 (.int .i64 (A0))).put 1 (.int .i64 (A1))).put 2 (.int .i64 (A2))).put 3 (.int .i64 (0))).put 4 (.int .i64 (0)))
    replace hS : At (((((w2.setCell ⟨g, 0, none⟩ (.int .i64 (A0))).setCell ⟨g, 1, none⟩ (.int .i64 (A1))).setCell ⟨g, 2, none⟩ (.int .i64 (A2))).setCell ⟨g, 3, none⟩ (.int .i64 (0))).setCell ⟨g, 4, none⟩ (.int .i64 (0))) (w.heap.size + 1) 29 #[.int .i64 0, .int .i64 0, .int .i64 0, .int .i64 0, .int .i64 0] := (((((hS.far (by omega) 0 (.int .i64 (A0))).far (by omega) 1 (.int .i64 (A1))).far (by omega) 2 (.int .i64 (A2))).far (by omega) 3 (.int .i64 (0))).far (by omega) 4 (.int .i64 (0)))
    replace hM : At (((((w2.setCell ⟨g, 0, none⟩ (.int .i64 (A0))).setCell ⟨g, 1, none⟩ (.int .i64 (A1))).setCell ⟨g, 2, none⟩ (.int .i64 (A2))).setCell ⟨g, 3, none⟩ (.int .i64 (0))).setCell ⟨g, 4, none⟩ (.int .i64 (0))) (w.heap.size + 1 + 1) 25 #[.int .i64 st, .int .i64 en] := (((((hM.far (by omega) 0 (.int .i64 (A0))).far (by omega) 1 (.int .i64 (A1))).far (by omega) 2 (.int .i64 (A2))).far (by omega) 3 (.int .i64 (0))).far (by omega) 4 (.int .i64 (0)))
    replace hB : Below w.heap.size w (((((w2.setCell ⟨g, 0, none⟩ (.int .i64 (A0))).setCell ⟨g, 1, none⟩ (.int .i64 (A1))).setCell ⟨g, 2, none⟩ (.int .i64 (A2))).setCell ⟨g, 3, none⟩ (.int .i64 (0))).setCell ⟨g, 4, none⟩ (.int .i64 (0))) := (Below.setCell (Below.setCell (Below.setCell (Below.setCell (Below.setCell hB hwg (.int .i64 (A0))) hwg (.int .i64 (A1))) hwg (.int .i64 (A2))) hwg (.int .i64 (0))) hwg (.int .i64 (0)))
    generalize (((((w2.setCell ⟨g, 0, none⟩ (.int .i64 (A0))).setCell ⟨g, 1, none⟩ (.int .i64 (A1))).setCell ⟨g, 2, none⟩ (.int .i64 (A2))).setCell ⟨g, 3, none⟩ (.int .i64 (0))).setCell ⟨g, 4, none⟩ (.int .i64 (0))) = w3 at *
    clear m0 m1 n0 n1 n2 n3 n4 hf hob hb2
    refine (cW _).mono ?_
    rintro e w4 ⟨rfl, hb4⟩
    replace hB := hB.trans (hb4.mono hB.size)
    replace hS := hS.keep hb4 hS.inside
    replace hM := hM.keep hb4 hM.inside
    replace hN := hN.keep hb4 hN.inside
    clear hb4
    have m0 := hM.cell 0
    have m1 := hM.cell 1
    simp at m0 m1
    have n0 := hN.cell 0
    have n1 := hN.cell 1
    have n2 := hN.cell 2
    have n3 := hN.cell 3
    have n4 := hN.cell 4
    simp at n0 n1 n2 n3 n4
    have hf := hN.free
    have hfm := hM.free
    go_upto_region 8 with fail
    replace hN : At ((w4.setCell ⟨(w.heap.size + 1 + 1), 0, none⟩ (.int .i64 (S0))).setCell ⟨(w.heap.size + 1 + 1), 1, none⟩ (.int .i64 (S1))) g 29 #[.int .i64 (A0), .int .i64 (A1), .int .i64 (A2), .int .i64 (0), .int .i64 (0)] := by simpa using ((hN.far (by omega) 0 (.int .i64 (S0))).far (by omega) 1 (.int .i64 (S1)))
    replace hM : At ((w4.setCell ⟨(w.heap.size + 1 + 1), 0, none⟩ (.int .i64 (S0))).setCell ⟨(w.heap.size + 1 + 1), 1, none⟩ (.int .i64 (S1))) (w.heap.size + 1 + 1) 25 #[.int .i64 (S0), .int .i64 (S1)] := by simpa using ((hM.put 0 (.int .i64 (S0))).put 1 (.int .i64 (S1)))
    replace hS : At ((w4.setCell ⟨(w.heap.size + 1 + 1), 0, none⟩ (.int .i64 (S0))).setCell ⟨(w.heap.size + 1 + 1), 1, none⟩ (.int .i64 (S1))) (w.heap.size + 1) 29 #[.int .i64 0, .int .i64 0, .int .i64 0, .int .i64 0, .int .i64 0] := ((hS.far (by omega) 0 (.int .i64 (S0))).far (by omega) 1 (.int .i64 (S1)))
    replace hB : Below w.heap.size w ((w4.setCell ⟨(w.heap.size + 1 + 1), 0, none⟩ (.int .i64 (S0))).setCell ⟨(w.heap.size + 1 + 1), 1, none⟩ (.int .i64 (S1))) := (Below.setCell (Below.setCell hB (by show w.heap.size ≤ (w.heap.size + 1 + 1); omega) (.int .i64 (S0))) (by show w.heap.size ≤ (w.heap.size + 1 + 1); omega) (.int .i64 (S1)))
    generalize ((w4.setCell ⟨(w.heap.size + 1 + 1), 0, none⟩ (.int .i64 (S0))).setCell ⟨(w.heap.size + 1 + 1), 1, none⟩ (.int .i64 (S1))) = w5 at *
    clear m0 m1 n0 n1 n2 n3 n4 hf hfm
    have m0 := hM.cell 0
    have m1 := hM.cell 1
    simp at m0 m1
    have n0 := hN.cell 0
    have n1 := hN.cell 1
    have n2 := hN.cell 2
    have n3 := hN.cell 3
    have n4 := hN.cell 4
    simp at n0 n1 n2 n3 n4
    have s0 := hS.cell 0
    have s1 := hS.cell 1
    have s2 := hS.cell 2
    have s3 := hS.cell 3
    have s4 := hS.cell 4
    simp at s0 s1 s2 s3 s4
    have hf := hN.free
    have hf2 := hS.free
    go_region
    all_goals
      go_wp2
      refine bodyPost_ret (res_ve rfl rfl (x0 := .int .i64 (A0)) (x1 := .int .i64 (A1)) (x2 := .int .i64 (A2)) (x3 := .int .i64 (S0)) (x4 := .int .i64 (S1)) (by exact (put5 ((hS.far hgS 3 _).far hgS 4 _)).drew)) rfl ?_
      exact ⟨rfl, by repeat (first | with_reducible refine Below.drew ?_ | with_reducible refine Below.setCell ?_ (by first | exact hwg | (simp; omega) | simp) _ | with_reducible exact hB)⟩

set_option maxHeartbeats 8000000 in
theorem vehicle_t (hx hy cp st en : Int) : ∃ hx2 hy2 cp2 st2 en2 : Int, (∀ w, Calls Try.prog 9 #[.agg #[.int .i64 hx, .int .i64 hy, .int .i64 cp, .int .i64 st, .int .i64 en], .bool true] w fun r w' => r = .returned (.agg #[.int .i64 hx2, .int .i64 hy2, .int .i64 cp2, .int .i64 st2, .int .i64 en2]) ∧ Below w.heap.size w w') ∧ (1 ≤ cp2 ∧ cp2 ≤ 40) ∧ (0 ≤ st2 ∧ st2 ≤ 49) ∧ (100 ≤ en2 ∧ en2 ≤ 499) := by
  obtain ⟨A0, hA0, hA0'⟩ : ∃ A, btwV hx 0 1023 = A ∧ 0 ≤ A ∧ A ≤ 1023 := ⟨_, rfl, btwV_bd _ _ _ (by omega)⟩
  obtain ⟨A1, hA1, hA1'⟩ : ∃ A, btwV hy 0 1023 = A ∧ 0 ≤ A ∧ A ≤ 1023 := ⟨_, rfl, btwV_bd _ _ _ (by omega)⟩
  obtain ⟨A2, hA2, hA2'⟩ : ∃ A, btwV cp 1 100000 = A ∧ 1 ≤ A ∧ A ≤ 100000 := ⟨_, rfl, btwV_bd _ _ _ (by omega)⟩
  have q1 := btwV_bd st 0 1048576 (by omega)
  have q2 := btwV_bd en 0 1048576 (by omega)
  obtain ⟨S0, hS0, hS0'⟩ : ∃ A, min (btwV st 0 1048576) (btwV en 0 1048576) = A ∧ 0 ≤ A ∧ A ≤ 1048576 := ⟨_, rfl, by omega⟩
  obtain ⟨S1, hS1, hS1'⟩ : ∃ A, max (btwV st 0 1048576) (btwV en 0 1048576) = A ∧ 0 ≤ A ∧ A ≤ 1048576 := ⟨_, rfl, by omega⟩
  have cH : ∀ w, Calls Try.prog 22 #[.agg #[.int .i64 hx, .int .i64 hy]] w fun r w' => r = .returned (.agg #[.int .i64 A0, .int .i64 A1]) ∧ Below w.heap.size w w' := fun w => by rw [← hA0, ← hA1]; exact lplace_any _ _ w
  have cC : ∀ w, Calls Try.prog 23 #[.int .i64 cp, .int .i64 1, .int .i64 100000] w fun r w' => r = .returned (.int .i64 A2) ∧ Below w.heap.size w w' := fun w => by rw [← hA2]; exact lbtw_1_100000 _ w
  have cW : ∀ w, Calls Try.prog 24 #[.agg #[.int .i64 st, .int .i64 en], .int .i64 1048576] w fun r w' => r = .returned (.agg #[.int .i64 S0, .int .i64 S1]) ∧ Below w.heap.size w w' := fun w => by rw [← hS0, ← hS1]; exact lwin_1048576 _ _ w
  clear hA0 hA1 hA2 hS0 hS1 q1 q2
  refine ⟨A0 % 30, A1 % 30, 1 + A2 % 40, S0 % 50, 100 + S1 % 400, ?_, by omega⟩
  intro w
  have hP : At (((w.alloc (.cells #[.int .i64 hx, .int .i64 hy, .int .i64 cp, .int .i64 st, .int .i64 en] 29)).alloc (.cells #[.int .i64 0, .int .i64 0, .int .i64 0, .int .i64 0, .int .i64 0] 29)).alloc (.cells #[.int .i64 st, .int .i64 en] 25)) w.heap.size 29 #[.int .i64 hx, .int .i64 hy, .int .i64 cp, .int .i64 st, .int .i64 en] := ((At.new w _ _).alloc _).alloc _
  have hS : At (((w.alloc (.cells #[.int .i64 hx, .int .i64 hy, .int .i64 cp, .int .i64 st, .int .i64 en] 29)).alloc (.cells #[.int .i64 0, .int .i64 0, .int .i64 0, .int .i64 0, .int .i64 0] 29)).alloc (.cells #[.int .i64 st, .int .i64 en] 25)) (w.heap.size + 1) 29 #[.int .i64 0, .int .i64 0, .int .i64 0, .int .i64 0, .int .i64 0] := (At.new_ _ _ _ (by simp)).alloc _
  have hM : At (((w.alloc (.cells #[.int .i64 hx, .int .i64 hy, .int .i64 cp, .int .i64 st, .int .i64 en] 29)).alloc (.cells #[.int .i64 0, .int .i64 0, .int .i64 0, .int .i64 0, .int .i64 0] 29)).alloc (.cells #[.int .i64 st, .int .i64 en] 25)) (w.heap.size + 1 + 1) 25 #[.int .i64 st, .int .i64 en] := At.new_ _ _ _ (by simp)
  have hB : Below w.heap.size w (((w.alloc (.cells #[.int .i64 hx, .int .i64 hy, .int .i64 cp, .int .i64 st, .int .i64 en] 29)).alloc (.cells #[.int .i64 0, .int .i64 0, .int .i64 0, .int .i64 0, .int .i64 0] 29)).alloc (.cells #[.int .i64 st, .int .i64 en] 25)) := by
    repeat (first | exact Below.refl _ _ | refine Below.alloc ?_ (by simp <;> omega) _)
  go_enter Try.func9, Try.ntmps9
  go_upto_region 2 with fail
  generalize (((w.alloc (.cells #[.int .i64 hx, .int .i64 hy, .int .i64 cp, .int .i64 st, .int .i64 en] 29)).alloc (.cells #[.int .i64 0, .int .i64 0, .int .i64 0, .int .i64 0, .int .i64 0] 29)).alloc (.cells #[.int .i64 st, .int .i64 en] 25)) = w1 at *
  have hsp := hP.inside
  have hss := hS.inside
  have hsm := hM.inside
  refine wp_region_float1 7 6 (.cells #[.int .i64 0, .int .i64 0, .int .i64 0, .int .i64 0, .int .i64 0] 29) ?af (by kernel_rfl) (by kernel_rfl) (by kernel_rfl) ?hL ?hW ?hT
  case hL =>
    intro o ho a wz
    have ho' := (Option.some.inj ho).symm
    subst ho'
    simp only [ptr]
    go_simp
  case hW =>
    intro w0 hw0
    have hP0 := hP.keep hw0 hP.inside
    have c0 := hP0.cell 0
    have c1 := hP0.cell 1
    have c2 := hP0.cell 2
    have c3 := hP0.cell 3
    have c4 := hP0.cell 4
    simp at c0 c1 c2 c3 c4
    have kc0 := cell_regrown c0
    have kc1 := cell_regrown c1
    have kc2 := cell_regrown c2
    have kc3 := cell_regrown c3
    have kc4 := cell_regrown c4
    have kH := fun d os => Calls.regrown_of (cH (grow (redrawn w0 d) os))
    have kC := fun d os => Calls.regrown_of (cC (grow (redrawn w0 d) os))
    simp only [List.take_succ_cons, List.take_zero]
    repeat (go_big_quiet_step (first | with_reducible exact kH _ _ | with_reducible exact kC _ _))
    refine wpQuiet_nil ?_
    rfl
  case hT =>
    intro g w2 hg hob hb2
    replace hB := hB.trans (hb2.mono hB.size)
    replace hS := hS.keep hb2 hS.inside
    replace hM := hM.keep hb2 hM.inside
    have hN : At w2 g 29 #[.int .i64 0, .int .i64 0, .int .i64 0, .int .i64 0, .int .i64 0] := hob
    have hgS : w.heap.size + 1 ≠ g := by omega
    have hgM : w.heap.size + 1 + 1 ≠ g := by omega
    have hwg : w.heap.size ≤ g := by omega
    have hgw := hN.inside
    simp only [List.drop_succ_cons, List.drop_zero]
    have m0 := hM.cell 0
    have m1 := hM.cell 1
    simp at m0 m1
    have n0 := hN.cell 0
    have n1 := hN.cell 1
    have n2 := hN.cell 2
    have n3 := hN.cell 3
    have n4 := hN.cell 4
    simp at n0 n1 n2 n3 n4
    have hf := hN.free
    go_wp2_with fail
    replace hN : At (((((w2.setCell ⟨g, 0, none⟩ (.int .i64 (A0))).setCell ⟨g, 1, none⟩ (.int .i64 (A1))).setCell ⟨g, 2, none⟩ (.int .i64 (A2))).setCell ⟨g, 3, none⟩ (.int .i64 (0))).setCell ⟨g, 4, none⟩ (.int .i64 (0))) g 29 #[.int .i64 A0, .int .i64 A1, .int .i64 A2, .int .i64 0, .int .i64 0] := by simpa using (((((hN.put 0 (.int .i64 (A0))).put 1 (.int .i64 (A1))).put 2 (.int .i64 (A2))).put 3 (.int .i64 (0))).put 4 (.int .i64 (0)))
    replace hS : At (((((w2.setCell ⟨g, 0, none⟩ (.int .i64 (A0))).setCell ⟨g, 1, none⟩ (.int .i64 (A1))).setCell ⟨g, 2, none⟩ (.int .i64 (A2))).setCell ⟨g, 3, none⟩ (.int .i64 (0))).setCell ⟨g, 4, none⟩ (.int .i64 (0))) (w.heap.size + 1) 29 #[.int .i64 0, .int .i64 0, .int .i64 0, .int .i64 0, .int .i64 0] := (((((hS.far (by omega) 0 (.int .i64 (A0))).far (by omega) 1 (.int .i64 (A1))).far (by omega) 2 (.int .i64 (A2))).far (by omega) 3 (.int .i64 (0))).far (by omega) 4 (.int .i64 (0)))
    replace hM : At (((((w2.setCell ⟨g, 0, none⟩ (.int .i64 (A0))).setCell ⟨g, 1, none⟩ (.int .i64 (A1))).setCell ⟨g, 2, none⟩ (.int .i64 (A2))).setCell ⟨g, 3, none⟩ (.int .i64 (0))).setCell ⟨g, 4, none⟩ (.int .i64 (0))) (w.heap.size + 1 + 1) 25 #[.int .i64 st, .int .i64 en] := (((((hM.far (by omega) 0 (.int .i64 (A0))).far (by omega) 1 (.int .i64 (A1))).far (by omega) 2 (.int .i64 (A2))).far (by omega) 3 (.int .i64 (0))).far (by omega) 4 (.int .i64 (0)))
    replace hB : Below w.heap.size w (((((w2.setCell ⟨g, 0, none⟩ (.int .i64 (A0))).setCell ⟨g, 1, none⟩ (.int .i64 (A1))).setCell ⟨g, 2, none⟩ (.int .i64 (A2))).setCell ⟨g, 3, none⟩ (.int .i64 (0))).setCell ⟨g, 4, none⟩ (.int .i64 (0))) := (Below.setCell (Below.setCell (Below.setCell (Below.setCell (Below.setCell hB hwg (.int .i64 (A0))) hwg (.int .i64 (A1))) hwg (.int .i64 (A2))) hwg (.int .i64 (0))) hwg (.int .i64 (0)))
    generalize (((((w2.setCell ⟨g, 0, none⟩ (.int .i64 (A0))).setCell ⟨g, 1, none⟩ (.int .i64 (A1))).setCell ⟨g, 2, none⟩ (.int .i64 (A2))).setCell ⟨g, 3, none⟩ (.int .i64 (0))).setCell ⟨g, 4, none⟩ (.int .i64 (0))) = w3 at *
    clear m0 m1 n0 n1 n2 n3 n4 hf hob hb2
    refine (cW _).mono ?_
    rintro e w4 ⟨rfl, hb4⟩
    replace hB := hB.trans (hb4.mono hB.size)
    replace hS := hS.keep hb4 hS.inside
    replace hM := hM.keep hb4 hM.inside
    replace hN := hN.keep hb4 hN.inside
    clear hb4
    have m0 := hM.cell 0
    have m1 := hM.cell 1
    simp at m0 m1
    have n0 := hN.cell 0
    have n1 := hN.cell 1
    have n2 := hN.cell 2
    have n3 := hN.cell 3
    have n4 := hN.cell 4
    simp at n0 n1 n2 n3 n4
    have hf := hN.free
    have hfm := hM.free
    go_upto_region 8 with fail
    replace hN : At (((((((w4.setCell ⟨(w.heap.size + 1 + 1), 0, none⟩ (.int .i64 (S0))).setCell ⟨(w.heap.size + 1 + 1), 1, none⟩ (.int .i64 (S1))).setCell ⟨g, 0, none⟩ (.int .i64 (A0 % 30))).setCell ⟨g, 1, none⟩ (.int .i64 (A1 % 30))).setCell ⟨g, 2, none⟩ (.int .i64 (1 + A2 % 40))).setCell ⟨(w.heap.size + 1 + 1), 0, none⟩ (.int .i64 (S0 % 50))).setCell ⟨(w.heap.size + 1 + 1), 1, none⟩ (.int .i64 (100 + S1 % 400))) g 29 #[.int .i64 (A0 % 30), .int .i64 (A1 % 30), .int .i64 (1 + A2 % 40), .int .i64 (0), .int .i64 (0)] := by simpa using (((((((hN.far (by omega) 0 (.int .i64 (S0))).far (by omega) 1 (.int .i64 (S1))).put 0 (.int .i64 (A0 % 30))).put 1 (.int .i64 (A1 % 30))).put 2 (.int .i64 (1 + A2 % 40))).far (by omega) 0 (.int .i64 (S0 % 50))).far (by omega) 1 (.int .i64 (100 + S1 % 400)))
    replace hM : At (((((((w4.setCell ⟨(w.heap.size + 1 + 1), 0, none⟩ (.int .i64 (S0))).setCell ⟨(w.heap.size + 1 + 1), 1, none⟩ (.int .i64 (S1))).setCell ⟨g, 0, none⟩ (.int .i64 (A0 % 30))).setCell ⟨g, 1, none⟩ (.int .i64 (A1 % 30))).setCell ⟨g, 2, none⟩ (.int .i64 (1 + A2 % 40))).setCell ⟨(w.heap.size + 1 + 1), 0, none⟩ (.int .i64 (S0 % 50))).setCell ⟨(w.heap.size + 1 + 1), 1, none⟩ (.int .i64 (100 + S1 % 400))) (w.heap.size + 1 + 1) 25 #[.int .i64 (S0 % 50), .int .i64 (100 + S1 % 400)] := by simpa using (((((((hM.put 0 (.int .i64 (S0))).put 1 (.int .i64 (S1))).far (by omega) 0 (.int .i64 (A0 % 30))).far (by omega) 1 (.int .i64 (A1 % 30))).far (by omega) 2 (.int .i64 (1 + A2 % 40))).put 0 (.int .i64 (S0 % 50))).put 1 (.int .i64 (100 + S1 % 400)))
    replace hS : At (((((((w4.setCell ⟨(w.heap.size + 1 + 1), 0, none⟩ (.int .i64 (S0))).setCell ⟨(w.heap.size + 1 + 1), 1, none⟩ (.int .i64 (S1))).setCell ⟨g, 0, none⟩ (.int .i64 (A0 % 30))).setCell ⟨g, 1, none⟩ (.int .i64 (A1 % 30))).setCell ⟨g, 2, none⟩ (.int .i64 (1 + A2 % 40))).setCell ⟨(w.heap.size + 1 + 1), 0, none⟩ (.int .i64 (S0 % 50))).setCell ⟨(w.heap.size + 1 + 1), 1, none⟩ (.int .i64 (100 + S1 % 400))) (w.heap.size + 1) 29 #[.int .i64 0, .int .i64 0, .int .i64 0, .int .i64 0, .int .i64 0] := (((((((hS.far (by omega) 0 (.int .i64 (S0))).far (by omega) 1 (.int .i64 (S1))).far (by omega) 0 (.int .i64 (A0 % 30))).far (by omega) 1 (.int .i64 (A1 % 30))).far (by omega) 2 (.int .i64 (1 + A2 % 40))).far (by omega) 0 (.int .i64 (S0 % 50))).far (by omega) 1 (.int .i64 (100 + S1 % 400)))
    replace hB : Below w.heap.size w (((((((w4.setCell ⟨(w.heap.size + 1 + 1), 0, none⟩ (.int .i64 (S0))).setCell ⟨(w.heap.size + 1 + 1), 1, none⟩ (.int .i64 (S1))).setCell ⟨g, 0, none⟩ (.int .i64 (A0 % 30))).setCell ⟨g, 1, none⟩ (.int .i64 (A1 % 30))).setCell ⟨g, 2, none⟩ (.int .i64 (1 + A2 % 40))).setCell ⟨(w.heap.size + 1 + 1), 0, none⟩ (.int .i64 (S0 % 50))).setCell ⟨(w.heap.size + 1 + 1), 1, none⟩ (.int .i64 (100 + S1 % 400))) := (Below.setCell (Below.setCell (Below.setCell (Below.setCell (Below.setCell (Below.setCell (Below.setCell hB (by show w.heap.size ≤ (w.heap.size + 1 + 1); omega) (.int .i64 (S0))) (by show w.heap.size ≤ (w.heap.size + 1 + 1); omega) (.int .i64 (S1))) (by show w.heap.size ≤ g; omega) (.int .i64 (A0 % 30))) (by show w.heap.size ≤ g; omega) (.int .i64 (A1 % 30))) (by show w.heap.size ≤ g; omega) (.int .i64 (1 + A2 % 40))) (by show w.heap.size ≤ (w.heap.size + 1 + 1); omega) (.int .i64 (S0 % 50))) (by show w.heap.size ≤ (w.heap.size + 1 + 1); omega) (.int .i64 (100 + S1 % 400)))
    generalize (((((((w4.setCell ⟨(w.heap.size + 1 + 1), 0, none⟩ (.int .i64 (S0))).setCell ⟨(w.heap.size + 1 + 1), 1, none⟩ (.int .i64 (S1))).setCell ⟨g, 0, none⟩ (.int .i64 (A0 % 30))).setCell ⟨g, 1, none⟩ (.int .i64 (A1 % 30))).setCell ⟨g, 2, none⟩ (.int .i64 (1 + A2 % 40))).setCell ⟨(w.heap.size + 1 + 1), 0, none⟩ (.int .i64 (S0 % 50))).setCell ⟨(w.heap.size + 1 + 1), 1, none⟩ (.int .i64 (100 + S1 % 400))) = w5 at *
    clear m0 m1 n0 n1 n2 n3 n4 hf hfm
    have m0 := hM.cell 0
    have m1 := hM.cell 1
    simp at m0 m1
    have n0 := hN.cell 0
    have n1 := hN.cell 1
    have n2 := hN.cell 2
    have n3 := hN.cell 3
    have n4 := hN.cell 4
    simp at n0 n1 n2 n3 n4
    have s0 := hS.cell 0
    have s1 := hS.cell 1
    have s2 := hS.cell 2
    have s3 := hS.cell 3
    have s4 := hS.cell 4
    simp at s0 s1 s2 s3 s4
    have hf := hN.free
    have hf2 := hS.free
    go_region
    all_goals
      go_wp2
      refine bodyPost_ret (res_ve rfl rfl (x0 := .int .i64 (A0 % 30)) (x1 := .int .i64 (A1 % 30)) (x2 := .int .i64 (1 + A2 % 40)) (x3 := .int .i64 (S0 % 50)) (x4 := .int .i64 (100 + S1 % 400)) (by exact (put5 ((hS.far hgS 3 _).far hgS 4 _)).drew)) rfl ?_
      exact ⟨rfl, by repeat (first | with_reducible refine Below.drew ?_ | with_reducible refine Below.setCell ?_ (by first | exact hwg | (simp; omega) | simp) _ | with_reducible exact hB)⟩

end Go.Proofs.Ytcdgfjfomiokmaa.Order
