/-
  The chapter's examples of order; numbers at their ends; requests within one place; what may not be: the closed statement holds. No conditions.
-/
import Derived.Test.YtcdgfjfomiokmaaOrderWorks
import Derived.Test.YtcdgfjfomiokmaaOrderOpen
namespace Go.Proofs.Ytcdgfjfomiokmaa.orderKnown
open Go.ChangeShapes Go.WideShapes Go.ChangeAt Go.RowKit Go.Sort
open Go.Proofs.Ytcdgfjfomiokmaa.Mem Go.Proofs.Ytcdgfjfomiokmaa.Order Go.Proofs.Ytcdgfjfomiokmaa.Tail Go.Proofs.Ytcdgfjfomiokmaa.Window Go.Proofs.Ytcdgfjfomiokmaa.Place
set_option linter.unusedVariables false

set_option maxRecDepth 100000 in
set_option maxHeartbeats 40000000 in
theorem walk (w : World) : Calls Try.prog 7 #[] w fun r w' => r = .returned (.bool true) ∧ Below w.heap.size w w' := by
  go_enter Try.func7, Try.ntmps7
  go_wp2_with fail
  refine (first_any _).mono ?_
  rintro e u0 ⟨rfl, hB⟩
  go_wp2_with fail
  have hV : At (((((u0.alloc (.cells #[.int .i64 0, .int .i64 0, .int .i64 3, .int .i64 4, .int .i64 10, .int .i64 20, .int .i64 0, .int .i64 40, .int .i64 5, .int .i64 2] 27)).alloc (.cells #[.int .i64 0, .int .i64 1, .int .i64 5, .int .i64 0, .int .i64 60] 29)).alloc (.cells #[.int .i64 0, .int .i64 0, .int .i64 0, .int .i64 0, .int .i64 10, .int .i64 20, .int .i64 0, .int .i64 40, .int .i64 5, .int .i64 0] 27)).alloc (.cells #[.int .i64 1023, .int .i64 1023, .int .i64 0, .int .i64 0, .int .i64 0, .int .i64 1048576, .int .i64 1048576, .int .i64 1048576, .int .i64 1000, .int .i64 1000] 27)).alloc (.cells #[.int .i64 0, .int .i64 0, .int .i64 100000, .int .i64 0, .int .i64 1048576] 29)) (u0.heap.size + 1) 29 #[.int .i64 0, .int .i64 1, .int .i64 5, .int .i64 0, .int .i64 60] := (((At.new_ _ _ _ (by simp)).alloc _).alloc _).alloc _
  have hS : At (((((u0.alloc (.cells #[.int .i64 0, .int .i64 0, .int .i64 3, .int .i64 4, .int .i64 10, .int .i64 20, .int .i64 0, .int .i64 40, .int .i64 5, .int .i64 2] 27)).alloc (.cells #[.int .i64 0, .int .i64 1, .int .i64 5, .int .i64 0, .int .i64 60] 29)).alloc (.cells #[.int .i64 0, .int .i64 0, .int .i64 0, .int .i64 0, .int .i64 10, .int .i64 20, .int .i64 0, .int .i64 40, .int .i64 5, .int .i64 0] 27)).alloc (.cells #[.int .i64 1023, .int .i64 1023, .int .i64 0, .int .i64 0, .int .i64 0, .int .i64 1048576, .int .i64 1048576, .int .i64 1048576, .int .i64 1000, .int .i64 1000] 27)).alloc (.cells #[.int .i64 0, .int .i64 0, .int .i64 100000, .int .i64 0, .int .i64 1048576] 29)) (u0.heap.size + 1 + 1) 27 #[.int .i64 0, .int .i64 0, .int .i64 0, .int .i64 0, .int .i64 10, .int .i64 20, .int .i64 0, .int .i64 40, .int .i64 5, .int .i64 0] := ((At.new_ _ _ _ (by simp)).alloc _).alloc _
  have hT : At (((((u0.alloc (.cells #[.int .i64 0, .int .i64 0, .int .i64 3, .int .i64 4, .int .i64 10, .int .i64 20, .int .i64 0, .int .i64 40, .int .i64 5, .int .i64 2] 27)).alloc (.cells #[.int .i64 0, .int .i64 1, .int .i64 5, .int .i64 0, .int .i64 60] 29)).alloc (.cells #[.int .i64 0, .int .i64 0, .int .i64 0, .int .i64 0, .int .i64 10, .int .i64 20, .int .i64 0, .int .i64 40, .int .i64 5, .int .i64 0] 27)).alloc (.cells #[.int .i64 1023, .int .i64 1023, .int .i64 0, .int .i64 0, .int .i64 0, .int .i64 1048576, .int .i64 1048576, .int .i64 1048576, .int .i64 1000, .int .i64 1000] 27)).alloc (.cells #[.int .i64 0, .int .i64 0, .int .i64 100000, .int .i64 0, .int .i64 1048576] 29)) (u0.heap.size + 1 + 1 + 1) 27 #[.int .i64 1023, .int .i64 1023, .int .i64 0, .int .i64 0, .int .i64 0, .int .i64 1048576, .int .i64 1048576, .int .i64 1048576, .int .i64 1000, .int .i64 1000] := (At.new_ _ _ _ (by simp)).alloc _
  have hW : At (((((u0.alloc (.cells #[.int .i64 0, .int .i64 0, .int .i64 3, .int .i64 4, .int .i64 10, .int .i64 20, .int .i64 0, .int .i64 40, .int .i64 5, .int .i64 2] 27)).alloc (.cells #[.int .i64 0, .int .i64 1, .int .i64 5, .int .i64 0, .int .i64 60] 29)).alloc (.cells #[.int .i64 0, .int .i64 0, .int .i64 0, .int .i64 0, .int .i64 10, .int .i64 20, .int .i64 0, .int .i64 40, .int .i64 5, .int .i64 0] 27)).alloc (.cells #[.int .i64 1023, .int .i64 1023, .int .i64 0, .int .i64 0, .int .i64 0, .int .i64 1048576, .int .i64 1048576, .int .i64 1048576, .int .i64 1000, .int .i64 1000] 27)).alloc (.cells #[.int .i64 0, .int .i64 0, .int .i64 100000, .int .i64 0, .int .i64 1048576] 29)) (u0.heap.size + 1 + 1 + 1 + 1) 29 #[.int .i64 0, .int .i64 0, .int .i64 100000, .int .i64 0, .int .i64 1048576] := At.new_ _ _ _ (by simp)
  replace hB : Below w.heap.size w (((((u0.alloc (.cells #[.int .i64 0, .int .i64 0, .int .i64 3, .int .i64 4, .int .i64 10, .int .i64 20, .int .i64 0, .int .i64 40, .int .i64 5, .int .i64 2] 27)).alloc (.cells #[.int .i64 0, .int .i64 1, .int .i64 5, .int .i64 0, .int .i64 60] 29)).alloc (.cells #[.int .i64 0, .int .i64 0, .int .i64 0, .int .i64 0, .int .i64 10, .int .i64 20, .int .i64 0, .int .i64 40, .int .i64 5, .int .i64 0] 27)).alloc (.cells #[.int .i64 1023, .int .i64 1023, .int .i64 0, .int .i64 0, .int .i64 0, .int .i64 1048576, .int .i64 1048576, .int .i64 1048576, .int .i64 1000, .int .i64 1000] 27)).alloc (.cells #[.int .i64 0, .int .i64 0, .int .i64 100000, .int .i64 0, .int .i64 1048576] 29)) := by
    have hs := hB.size
    exact ((((hB.alloc hs _).alloc (by simp; omega) _).alloc (by simp; omega) _).alloc (by simp; omega) _).alloc (by simp; omega) _
  generalize (((((u0.alloc (.cells #[.int .i64 0, .int .i64 0, .int .i64 3, .int .i64 4, .int .i64 10, .int .i64 20, .int .i64 0, .int .i64 40, .int .i64 5, .int .i64 2] 27)).alloc (.cells #[.int .i64 0, .int .i64 1, .int .i64 5, .int .i64 0, .int .i64 60] 29)).alloc (.cells #[.int .i64 0, .int .i64 0, .int .i64 0, .int .i64 0, .int .i64 10, .int .i64 20, .int .i64 0, .int .i64 40, .int .i64 5, .int .i64 0] 27)).alloc (.cells #[.int .i64 1023, .int .i64 1023, .int .i64 0, .int .i64 0, .int .i64 0, .int .i64 1048576, .int .i64 1048576, .int .i64 1048576, .int .i64 1000, .int .i64 1000] 27)).alloc (.cells #[.int .i64 0, .int .i64 0, .int .i64 100000, .int .i64 0, .int .i64 1048576] 29)) = uz at *
  generalize u0.heap.size = g at *
  have k1 : ∀ w, Calls Try.prog 17 #[.agg #[.int .i64 1023, .int .i64 1023, .int .i64 0, .int .i64 0, .int .i64 0, .int .i64 1048576, .int .i64 1048576, .int .i64 1048576, .int .i64 1000, .int .i64 1000]] w fun r w' => r = .returned (.tuple #[.agg #[.int .i64 1023, .int .i64 1023, .int .i64 0, .int .i64 0, .int .i64 0, .int .i64 1045530, .int .i64 1048576, .int .i64 1048576, .int .i64 1000, .int .i64 1000], .bool true]) ∧ Below w.heap.size w w' := fun w => by have h := Tight_any 1023 1023 0 0 0 1048576 1048576 1048576 1000 1000 w; rw [show tightB 1023 1023 0 0 0 1048576 1048576 1048576 1000 1000 = true by decide, show tightL 1023 1023 0 0 0 1048576 1048576 1048576 1000 1000 = 1045530 by decide, show tightE 1023 1023 0 0 0 1048576 1048576 1048576 1000 1000 = 1048576 by decide] at h; exact h
  refine (k1 _).mono ?_
  rintro e u1 ⟨rfl, hb1⟩
  replace hV := hV.keep hb1 hV.inside
  replace hS := hS.keep hb1 hS.inside
  replace hT := hT.keep hb1 hT.inside
  replace hW := hW.keep hb1 hW.inside
  replace hB := hB.trans (hb1.mono hB.size)
  clear hb1 k1
  have s0 := hS.cell 0
  have s1 := hS.cell 1
  have s2 := hS.cell 2
  have s3 := hS.cell 3
  have s4 := hS.cell 4
  have s5 := hS.cell 5
  have s6 := hS.cell 6
  have s7 := hS.cell 7
  have s8 := hS.cell 8
  have s9 := hS.cell 9
  simp at s0 s1 s2 s3 s4 s5 s6 s7 s8 s9
  have hiV := hV.inside
  have hiS := hS.inside
  have hiT := hT.inside
  have hiW := hW.inside
  go_wp2_with fail
  clear s0 s1 s2 s3 s4 s5 s6 s7 s8 s9
  clear hiV hiS hiT hiW
  have hQ := At.new u1 27 #[.int .i64 1023, .int .i64 1023, .int .i64 0, .int .i64 0, .int .i64 0, .int .i64 1045530, .int .i64 1048576, .int .i64 1048576, .int .i64 1000, .int .i64 1000]
  replace hV := hV.alloc (.cells #[.int .i64 1023, .int .i64 1023, .int .i64 0, .int .i64 0, .int .i64 0, .int .i64 1045530, .int .i64 1048576, .int .i64 1048576, .int .i64 1000, .int .i64 1000] 27)
  replace hS := hS.alloc (.cells #[.int .i64 1023, .int .i64 1023, .int .i64 0, .int .i64 0, .int .i64 0, .int .i64 1045530, .int .i64 1048576, .int .i64 1048576, .int .i64 1000, .int .i64 1000] 27)
  replace hT := hT.alloc (.cells #[.int .i64 1023, .int .i64 1023, .int .i64 0, .int .i64 0, .int .i64 0, .int .i64 1045530, .int .i64 1048576, .int .i64 1048576, .int .i64 1000, .int .i64 1000] 27)
  replace hW := hW.alloc (.cells #[.int .i64 1023, .int .i64 1023, .int .i64 0, .int .i64 0, .int .i64 0, .int .i64 1045530, .int .i64 1048576, .int .i64 1048576, .int .i64 1000, .int .i64 1000] 27)
  replace hB := hB.alloc hB.size (.cells #[.int .i64 1023, .int .i64 1023, .int .i64 0, .int .i64 0, .int .i64 0, .int .i64 1045530, .int .i64 1048576, .int .i64 1048576, .int .i64 1000, .int .i64 1000] 27)
  generalize (u1.alloc (.cells #[.int .i64 1023, .int .i64 1023, .int .i64 0, .int .i64 0, .int .i64 0, .int .i64 1045530, .int .i64 1048576, .int .i64 1048576, .int .i64 1000, .int .i64 1000] 27)) = u2 at *
  generalize u1.heap.size = gu2 at *
  have k2 : ∀ w, Calls Try.prog 19 #[.agg #[.int .i64 0, .int .i64 0, .int .i64 0, .int .i64 0, .int .i64 10, .int .i64 20, .int .i64 0, .int .i64 40, .int .i64 5, .int .i64 0]] w fun r w' => r = .returned (.int .i64 0) ∧ Below w.heap.size w w' := fun w => by have h := Least_any 0 0 0 0 10 20 0 40 5 0 w; rw [show leastV 0 0 0 0 10 20 0 40 5 0 = 0 by decide] at h; exact h
  refine (k2 _).mono ?_
  rintro e u3 ⟨rfl, hb1⟩
  replace hV := hV.keep hb1 hV.inside
  replace hT := hT.keep hb1 hT.inside
  replace hW := hW.keep hb1 hW.inside
  replace hQ := hQ.keep hb1 hQ.inside
  replace hB := hB.trans (hb1.mono hB.size)
  clear hb1 k2
  clear hS
  have t0 := hT.cell 0
  have t1 := hT.cell 1
  have t2 := hT.cell 2
  have t3 := hT.cell 3
  have t4 := hT.cell 4
  have t5 := hT.cell 5
  have t6 := hT.cell 6
  have t7 := hT.cell 7
  have t8 := hT.cell 8
  have t9 := hT.cell 9
  simp at t0 t1 t2 t3 t4 t5 t6 t7 t8 t9
  go_wp2_with fail
  clear t0 t1 t2 t3 t4 t5 t6 t7 t8 t9
  have k3 : ∀ w, Calls Try.prog 10 #[.agg #[.int .i64 1023, .int .i64 1023, .int .i64 0, .int .i64 0, .int .i64 0, .int .i64 1048576, .int .i64 1048576, .int .i64 1048576, .int .i64 1000, .int .i64 1000]] w fun r w' => r = .returned (.int .i64 0) ∧ Below w.heap.size w w' := fun w => by have h := Check_any 1023 1023 0 0 0 1048576 1048576 1048576 1000 1000 w; rw [show chk 1023 1023 0 0 0 1048576 1048576 1048576 1000 1000 = 0 by decide] at h; exact h
  refine (k3 _).mono ?_
  rintro e u4 ⟨rfl, hb1⟩
  replace hV := hV.keep hb1 hV.inside
  replace hT := hT.keep hb1 hT.inside
  replace hW := hW.keep hb1 hW.inside
  replace hQ := hQ.keep hb1 hQ.inside
  replace hB := hB.trans (hb1.mono hB.size)
  clear hb1 k3
  have t0 := hT.cell 0
  have t1 := hT.cell 1
  have t2 := hT.cell 2
  have t3 := hT.cell 3
  have t4 := hT.cell 4
  have t5 := hT.cell 5
  have t6 := hT.cell 6
  have t7 := hT.cell 7
  have t8 := hT.cell 8
  have t9 := hT.cell 9
  simp at t0 t1 t2 t3 t4 t5 t6 t7 t8 t9
  go_wp2_with fail
  clear t0 t1 t2 t3 t4 t5 t6 t7 t8 t9
  have k4 : ∀ w, Calls Try.prog 19 #[.agg #[.int .i64 1023, .int .i64 1023, .int .i64 0, .int .i64 0, .int .i64 0, .int .i64 1048576, .int .i64 1048576, .int .i64 1048576, .int .i64 1000, .int .i64 1000]] w fun r w' => r = .returned (.int .i64 4046) ∧ Below w.heap.size w w' := fun w => by have h := Least_any 1023 1023 0 0 0 1048576 1048576 1048576 1000 1000 w; rw [show leastV 1023 1023 0 0 0 1048576 1048576 1048576 1000 1000 = 4046 by decide] at h; exact h
  refine (k4 _).mono ?_
  rintro e u5 ⟨rfl, hb1⟩
  replace hV := hV.keep hb1 hV.inside
  replace hT := hT.keep hb1 hT.inside
  replace hW := hW.keep hb1 hW.inside
  replace hQ := hQ.keep hb1 hQ.inside
  replace hB := hB.trans (hb1.mono hB.size)
  clear hb1 k4
  have x0 := hW.cell 0
  have x1 := hW.cell 1
  have x2 := hW.cell 2
  have x3 := hW.cell 3
  have x4 := hW.cell 4
  simp at x0 x1 x2 x3 x4
  have q0 := hQ.cell 0
  have q1 := hQ.cell 1
  have q2 := hQ.cell 2
  have q3 := hQ.cell 3
  have q4 := hQ.cell 4
  have q5 := hQ.cell 5
  have q6 := hQ.cell 6
  have q7 := hQ.cell 7
  have q8 := hQ.cell 8
  have q9 := hQ.cell 9
  simp at q0 q1 q2 q3 q4 q5 q6 q7 q8 q9
  go_wp2_with fail
  clear x0 x1 x2 x3 x4 q0 q1 q2 q3 q4 q5 q6 q7 q8 q9 hQ
  have k5 : ∀ w, Calls Try.prog 12 #[.agg #[.int .i64 0, .int .i64 0, .int .i64 100000, .int .i64 0, .int .i64 1048576]] w fun r w' => r = .returned (.int .i64 0) ∧ Below w.heap.size w w' := fun w => by have h := Vehicle_any 0 0 100000 0 1048576 w; rw [show veh 0 0 100000 0 1048576 = 0 by decide] at h; exact h
  refine (k5 _).mono ?_
  rintro e u6 ⟨rfl, hb1⟩
  replace hV := hV.keep hb1 hV.inside
  replace hT := hT.keep hb1 hT.inside
  replace hW := hW.keep hb1 hW.inside
  replace hB := hB.trans (hb1.mono hB.size)
  clear hb1 k5
  have t0 := hT.cell 0
  have t1 := hT.cell 1
  have t2 := hT.cell 2
  have t3 := hT.cell 3
  have t4 := hT.cell 4
  have t5 := hT.cell 5
  have t6 := hT.cell 6
  have t7 := hT.cell 7
  have t8 := hT.cell 8
  have t9 := hT.cell 9
  simp at t0 t1 t2 t3 t4 t5 t6 t7 t8 t9
  have x0 := hW.cell 0
  have x1 := hW.cell 1
  have x2 := hW.cell 2
  have x3 := hW.cell 3
  have x4 := hW.cell 4
  simp at x0 x1 x2 x3 x4
  go_wp2_with fail
  clear t0 t1 t2 t3 t4 t5 t6 t7 t8 t9 x0 x1 x2 x3 x4 hW
  have k6 : ∀ w, Calls Try.prog 15 #[.agg #[.int .i64 1023, .int .i64 1023, .int .i64 0, .int .i64 0, .int .i64 0, .int .i64 1048576, .int .i64 1048576, .int .i64 1048576, .int .i64 1000, .int .i64 1000], .agg #[.int .i64 0, .int .i64 0, .int .i64 100000, .int .i64 0, .int .i64 1048576]] w fun r w' => r = .returned (.tuple #[.int .i64 0, .bool false]) ∧ Below w.heap.size w w' := fun w => by have h := Alone_any 1023 1023 0 0 0 1048576 1048576 1048576 1000 1000 0 0 100000 0 1048576 w; rw [show aloneV 1023 1023 0 0 0 1048576 1048576 1048576 1000 1000 0 0 100000 0 1048576 = 0 by decide, show aloneB 1023 1023 0 0 0 1048576 1048576 1048576 1000 1000 0 0 100000 0 1048576 = false by decide] at h; exact h
  refine (k6 _).mono ?_
  rintro e u7 ⟨rfl, hb1⟩
  replace hV := hV.keep hb1 hV.inside
  replace hT := hT.keep hb1 hT.inside
  replace hB := hB.trans (hb1.mono hB.size)
  clear hb1 k6
  have t0 := hT.cell 0
  have t1 := hT.cell 1
  have t2 := hT.cell 2
  have t3 := hT.cell 3
  have t4 := hT.cell 4
  have t5 := hT.cell 5
  have t6 := hT.cell 6
  have t7 := hT.cell 7
  have t8 := hT.cell 8
  have t9 := hT.cell 9
  simp at t0 t1 t2 t3 t4 t5 t6 t7 t8 t9
  have hiV := hV.inside
  have hiT := hT.inside
  go_wp2_with fail
  clear t0 t1 t2 t3 t4 t5 t6 t7 t8 t9
  have hBD : At ((u7.alloc (.cells #[.int .i64 0, .int .i64 0, .int .i64 0, .int .i64 0, .int .i64 0, .int .i64 0, .int .i64 0, .int .i64 0, .int .i64 0, .int .i64 0, .int .i64 1024, .int .i64 1023, .int .i64 0, .int .i64 0, .int .i64 0, .int .i64 1048576, .int .i64 1048576, .int .i64 1048576, .int .i64 1000, .int .i64 1000, .int .i64 1023, .int .i64 1023, .int .i64 0, .int .i64 0, .int .i64 0, .int .i64 1048577, .int .i64 1048576, .int .i64 1048576, .int .i64 1000, .int .i64 1000, .int .i64 1023, .int .i64 1023, .int .i64 0, .int .i64 0, .int .i64 0, .int .i64 1048576, .int .i64 1048577, .int .i64 1048576, .int .i64 1000, .int .i64 1000, .int .i64 1023, .int .i64 1023, .int .i64 0, .int .i64 0, .int .i64 0, .int .i64 1048576, .int .i64 1048576, .int .i64 1048576, .int .i64 1001, .int .i64 1000, .int .i64 1023, .int .i64 1023, .int .i64 0, .int .i64 0, .int .i64 0, .int .i64 1048576, .int .i64 1048576, .int .i64 1048576, .int .i64 1000, .int .i64 (-1)] 27)).alloc (.cells #[.int .i64 6, .int .i64 4, .int .i64 5, .int .i64 5, .int .i64 6, .int .i64 6] 35)) u7.heap.size 27 #[.int .i64 0, .int .i64 0, .int .i64 0, .int .i64 0, .int .i64 0, .int .i64 0, .int .i64 0, .int .i64 0, .int .i64 0, .int .i64 0, .int .i64 1024, .int .i64 1023, .int .i64 0, .int .i64 0, .int .i64 0, .int .i64 1048576, .int .i64 1048576, .int .i64 1048576, .int .i64 1000, .int .i64 1000, .int .i64 1023, .int .i64 1023, .int .i64 0, .int .i64 0, .int .i64 0, .int .i64 1048577, .int .i64 1048576, .int .i64 1048576, .int .i64 1000, .int .i64 1000, .int .i64 1023, .int .i64 1023, .int .i64 0, .int .i64 0, .int .i64 0, .int .i64 1048576, .int .i64 1048577, .int .i64 1048576, .int .i64 1000, .int .i64 1000, .int .i64 1023, .int .i64 1023, .int .i64 0, .int .i64 0, .int .i64 0, .int .i64 1048576, .int .i64 1048576, .int .i64 1048576, .int .i64 1001, .int .i64 1000, .int .i64 1023, .int .i64 1023, .int .i64 0, .int .i64 0, .int .i64 0, .int .i64 1048576, .int .i64 1048576, .int .i64 1048576, .int .i64 1000, .int .i64 (-1)] := (At.new _ _ _).alloc _
  have hER : At ((u7.alloc (.cells #[.int .i64 0, .int .i64 0, .int .i64 0, .int .i64 0, .int .i64 0, .int .i64 0, .int .i64 0, .int .i64 0, .int .i64 0, .int .i64 0, .int .i64 1024, .int .i64 1023, .int .i64 0, .int .i64 0, .int .i64 0, .int .i64 1048576, .int .i64 1048576, .int .i64 1048576, .int .i64 1000, .int .i64 1000, .int .i64 1023, .int .i64 1023, .int .i64 0, .int .i64 0, .int .i64 0, .int .i64 1048577, .int .i64 1048576, .int .i64 1048576, .int .i64 1000, .int .i64 1000, .int .i64 1023, .int .i64 1023, .int .i64 0, .int .i64 0, .int .i64 0, .int .i64 1048576, .int .i64 1048577, .int .i64 1048576, .int .i64 1000, .int .i64 1000, .int .i64 1023, .int .i64 1023, .int .i64 0, .int .i64 0, .int .i64 0, .int .i64 1048576, .int .i64 1048576, .int .i64 1048576, .int .i64 1001, .int .i64 1000, .int .i64 1023, .int .i64 1023, .int .i64 0, .int .i64 0, .int .i64 0, .int .i64 1048576, .int .i64 1048576, .int .i64 1048576, .int .i64 1000, .int .i64 (-1)] 27)).alloc (.cells #[.int .i64 6, .int .i64 4, .int .i64 5, .int .i64 5, .int .i64 6, .int .i64 6] 35)) (u7.heap.size + 1) 35 #[.int .i64 6, .int .i64 4, .int .i64 5, .int .i64 5, .int .i64 6, .int .i64 6] := At.new_ _ _ _ (by simp)
  replace hV := (hV.alloc (.cells #[.int .i64 0, .int .i64 0, .int .i64 0, .int .i64 0, .int .i64 0, .int .i64 0, .int .i64 0, .int .i64 0, .int .i64 0, .int .i64 0, .int .i64 1024, .int .i64 1023, .int .i64 0, .int .i64 0, .int .i64 0, .int .i64 1048576, .int .i64 1048576, .int .i64 1048576, .int .i64 1000, .int .i64 1000, .int .i64 1023, .int .i64 1023, .int .i64 0, .int .i64 0, .int .i64 0, .int .i64 1048577, .int .i64 1048576, .int .i64 1048576, .int .i64 1000, .int .i64 1000, .int .i64 1023, .int .i64 1023, .int .i64 0, .int .i64 0, .int .i64 0, .int .i64 1048576, .int .i64 1048577, .int .i64 1048576, .int .i64 1000, .int .i64 1000, .int .i64 1023, .int .i64 1023, .int .i64 0, .int .i64 0, .int .i64 0, .int .i64 1048576, .int .i64 1048576, .int .i64 1048576, .int .i64 1001, .int .i64 1000, .int .i64 1023, .int .i64 1023, .int .i64 0, .int .i64 0, .int .i64 0, .int .i64 1048576, .int .i64 1048576, .int .i64 1048576, .int .i64 1000, .int .i64 (-1)] 27)).alloc (.cells #[.int .i64 6, .int .i64 4, .int .i64 5, .int .i64 5, .int .i64 6, .int .i64 6] 35)
  replace hB : Below w.heap.size w ((u7.alloc (.cells #[.int .i64 0, .int .i64 0, .int .i64 0, .int .i64 0, .int .i64 0, .int .i64 0, .int .i64 0, .int .i64 0, .int .i64 0, .int .i64 0, .int .i64 1024, .int .i64 1023, .int .i64 0, .int .i64 0, .int .i64 0, .int .i64 1048576, .int .i64 1048576, .int .i64 1048576, .int .i64 1000, .int .i64 1000, .int .i64 1023, .int .i64 1023, .int .i64 0, .int .i64 0, .int .i64 0, .int .i64 1048577, .int .i64 1048576, .int .i64 1048576, .int .i64 1000, .int .i64 1000, .int .i64 1023, .int .i64 1023, .int .i64 0, .int .i64 0, .int .i64 0, .int .i64 1048576, .int .i64 1048577, .int .i64 1048576, .int .i64 1000, .int .i64 1000, .int .i64 1023, .int .i64 1023, .int .i64 0, .int .i64 0, .int .i64 0, .int .i64 1048576, .int .i64 1048576, .int .i64 1048576, .int .i64 1001, .int .i64 1000, .int .i64 1023, .int .i64 1023, .int .i64 0, .int .i64 0, .int .i64 0, .int .i64 1048576, .int .i64 1048576, .int .i64 1048576, .int .i64 1000, .int .i64 (-1)] 27)).alloc (.cells #[.int .i64 6, .int .i64 4, .int .i64 5, .int .i64 5, .int .i64 6, .int .i64 6] 35)) := by
    have hs := hB.size
    exact (hB.alloc hs _).alloc (by simp; omega) _
  generalize ((u7.alloc (.cells #[.int .i64 0, .int .i64 0, .int .i64 0, .int .i64 0, .int .i64 0, .int .i64 0, .int .i64 0, .int .i64 0, .int .i64 0, .int .i64 0, .int .i64 1024, .int .i64 1023, .int .i64 0, .int .i64 0, .int .i64 0, .int .i64 1048576, .int .i64 1048576, .int .i64 1048576, .int .i64 1000, .int .i64 1000, .int .i64 1023, .int .i64 1023, .int .i64 0, .int .i64 0, .int .i64 0, .int .i64 1048577, .int .i64 1048576, .int .i64 1048576, .int .i64 1000, .int .i64 1000, .int .i64 1023, .int .i64 1023, .int .i64 0, .int .i64 0, .int .i64 0, .int .i64 1048576, .int .i64 1048577, .int .i64 1048576, .int .i64 1000, .int .i64 1000, .int .i64 1023, .int .i64 1023, .int .i64 0, .int .i64 0, .int .i64 0, .int .i64 1048576, .int .i64 1048576, .int .i64 1048576, .int .i64 1001, .int .i64 1000, .int .i64 1023, .int .i64 1023, .int .i64 0, .int .i64 0, .int .i64 0, .int .i64 1048576, .int .i64 1048576, .int .i64 1048576, .int .i64 1000, .int .i64 (-1)] 27)).alloc (.cells #[.int .i64 6, .int .i64 4, .int .i64 5, .int .i64 5, .int .i64 6, .int .i64 6] 35)) = ub at *
  generalize u7.heap.size = gb at *
  clear hT hiV hiT
  refine wp_loop_rounds 7 ?_
  have kt : ∀ w, Calls Try.prog 17 #[.agg #[.int .i64 0, .int .i64 0, .int .i64 0, .int .i64 0, .int .i64 0, .int .i64 0, .int .i64 0, .int .i64 0, .int .i64 0, .int .i64 0]] w fun r w' => r = .returned (.tuple #[.agg #[.int .i64 0, .int .i64 0, .int .i64 0, .int .i64 0, .int .i64 0, .int .i64 0, .int .i64 0, .int .i64 0, .int .i64 0, .int .i64 0], .bool false]) ∧ Below w.heap.size w w' := fun w => by have h := Tight_any 0 0 0 0 0 0 0 0 0 0 w; rw [show tightB 0 0 0 0 0 0 0 0 0 0 = false by decide] at h; exact h
  have ka : ∀ w, Calls Try.prog 15 #[.agg #[.int .i64 0, .int .i64 0, .int .i64 0, .int .i64 0, .int .i64 0, .int .i64 0, .int .i64 0, .int .i64 0, .int .i64 0, .int .i64 0], .agg #[.int .i64 0, .int .i64 1, .int .i64 5, .int .i64 0, .int .i64 60]] w fun r w' => r = .returned (.tuple #[.int .i64 0, .bool false]) ∧ Below w.heap.size w w' := fun w => by have h := Alone_any 0 0 0 0 0 0 0 0 0 0 0 1 5 0 60 w; rw [show aloneV 0 0 0 0 0 0 0 0 0 0 0 1 5 0 60 = 0 by decide, show aloneB 0 0 0 0 0 0 0 0 0 0 0 1 5 0 60 = false by decide] at h; exact h
  have kc : ∀ w, Calls Try.prog 10 #[.agg #[.int .i64 0, .int .i64 0, .int .i64 0, .int .i64 0, .int .i64 0, .int .i64 0, .int .i64 0, .int .i64 0, .int .i64 0, .int .i64 0]] w fun r w' => r = .returned (.int .i64 6) ∧ Below w.heap.size w w' := fun w => by have h := Check_any 0 0 0 0 0 0 0 0 0 0 w; rw [show chk 0 0 0 0 0 0 0 0 0 0 = 6 by decide] at h; exact h
  have kl : ∀ w, Calls Try.prog 19 #[.agg #[.int .i64 0, .int .i64 0, .int .i64 0, .int .i64 0, .int .i64 0, .int .i64 0, .int .i64 0, .int .i64 0, .int .i64 0, .int .i64 0]] w fun r w' => r = .returned (.int .i64 0) ∧ Below w.heap.size w w' := fun w => by have h := Least_any 0 0 0 0 0 0 0 0 0 0 w; rw [show leastV 0 0 0 0 0 0 0 0 0 0 = 0 by decide] at h; exact h
  rw [rounds_succ]
  have d0 := hBD.cell 0
  have d1 := hBD.cell 1
  have d2 := hBD.cell 2
  have d3 := hBD.cell 3
  have d4 := hBD.cell 4
  have d5 := hBD.cell 5
  have d6 := hBD.cell 6
  have d7 := hBD.cell 7
  have d8 := hBD.cell 8
  have d9 := hBD.cell 9
  simp at d0 d1 d2 d3 d4 d5 d6 d7 d8 d9
  have hiV := hV.inside
  have hiBD := hBD.inside
  have hiER := hER.inside
  go_wp2_with fail
  clear d0 d1 d2 d3 d4 d5 d6 d7 d8 d9
  clear hiV hiBD hiER
  refine (kt _).mono ?_
  rintro e u8 ⟨rfl, hb1⟩
  replace hV := hV.keep hb1 hV.inside
  replace hBD := hBD.keep hb1 hBD.inside
  replace hER := hER.keep hb1 hER.inside
  replace hB := hB.trans (hb1.mono hB.size)
  clear hb1 kt
  have d0 := hBD.cell 0
  have d1 := hBD.cell 1
  have d2 := hBD.cell 2
  have d3 := hBD.cell 3
  have d4 := hBD.cell 4
  have d5 := hBD.cell 5
  have d6 := hBD.cell 6
  have d7 := hBD.cell 7
  have d8 := hBD.cell 8
  have d9 := hBD.cell 9
  simp at d0 d1 d2 d3 d4 d5 d6 d7 d8 d9
  have hiV := hV.inside
  have hiBD := hBD.inside
  have hiER := hER.inside
  go_wp2_with fail
  clear d0 d1 d2 d3 d4 d5 d6 d7 d8 d9
  clear hiV hiBD hiER
  have hZZ := At.new u8 27 #[.int .i64 0, .int .i64 0, .int .i64 0, .int .i64 0, .int .i64 0, .int .i64 0, .int .i64 0, .int .i64 0, .int .i64 0, .int .i64 0]
  replace hV := hV.alloc (.cells #[.int .i64 0, .int .i64 0, .int .i64 0, .int .i64 0, .int .i64 0, .int .i64 0, .int .i64 0, .int .i64 0, .int .i64 0, .int .i64 0] 27)
  replace hBD := hBD.alloc (.cells #[.int .i64 0, .int .i64 0, .int .i64 0, .int .i64 0, .int .i64 0, .int .i64 0, .int .i64 0, .int .i64 0, .int .i64 0, .int .i64 0] 27)
  replace hER := hER.alloc (.cells #[.int .i64 0, .int .i64 0, .int .i64 0, .int .i64 0, .int .i64 0, .int .i64 0, .int .i64 0, .int .i64 0, .int .i64 0, .int .i64 0] 27)
  replace hB := hB.alloc hB.size (.cells #[.int .i64 0, .int .i64 0, .int .i64 0, .int .i64 0, .int .i64 0, .int .i64 0, .int .i64 0, .int .i64 0, .int .i64 0, .int .i64 0] 27)
  generalize (u8.alloc (.cells #[.int .i64 0, .int .i64 0, .int .i64 0, .int .i64 0, .int .i64 0, .int .i64 0, .int .i64 0, .int .i64 0, .int .i64 0, .int .i64 0] 27)) = u9 at *
  generalize u8.heap.size = gu9 at *
  clear hZZ
  have d0 := hBD.cell 0
  have d1 := hBD.cell 1
  have d2 := hBD.cell 2
  have d3 := hBD.cell 3
  have d4 := hBD.cell 4
  have d5 := hBD.cell 5
  have d6 := hBD.cell 6
  have d7 := hBD.cell 7
  have d8 := hBD.cell 8
  have d9 := hBD.cell 9
  simp at d0 d1 d2 d3 d4 d5 d6 d7 d8 d9
  have v0 := hV.cell 0
  have v1 := hV.cell 1
  have v2 := hV.cell 2
  have v3 := hV.cell 3
  have v4 := hV.cell 4
  simp at v0 v1 v2 v3 v4
  have kd0 := cell_regrown d0
  have kd1 := cell_regrown d1
  have kd2 := cell_regrown d2
  have kd3 := cell_regrown d3
  have kd4 := cell_regrown d4
  have kd5 := cell_regrown d5
  have kd6 := cell_regrown d6
  have kd7 := cell_regrown d7
  have kd8 := cell_regrown d8
  have kd9 := cell_regrown d9
  have kv0 := cell_regrown v0
  have kv1 := cell_regrown v1
  have kv2 := cell_regrown v2
  have kv3 := cell_regrown v3
  have kv4 := cell_regrown v4
  have kkA := fun d os => Calls.regrown_of (ka (grow (redrawn u9 d) os))
  refine wp_region_quiet_below (by kernel_rfl) (by kernel_rfl) ?_
  repeat (go_big_quiet_step (with_reducible exact kkA _ _))
  refine wpQuiet_nil ?_
  intro _ hw'
  obtain ⟨⟨dq, osq⟩, hw''⟩ := hw'
  subst hw''
  replace hV := hV.keep (below_regrown u9 dq osq) hV.inside
  replace hBD := hBD.keep (below_regrown u9 dq osq) hBD.inside
  replace hER := hER.keep (below_regrown u9 dq osq) hER.inside
  replace hB := hB.trans ((below_regrown u9 dq osq).mono hB.size)
  generalize grow (redrawn u9 dq) osq = u10 at *
  clear ka kkA d0 d1 d2 d3 d4 d5 d6 d7 d8 d9 kd0 kd1 kd2 kd3 kd4 kd5 kd6 kd7 kd8 kd9 v0 v1 v2 v3 v4 kv0 kv1 kv2 kv3 kv4
  go_wp2_with fail
  have d0 := hBD.cell 0
  have d1 := hBD.cell 1
  have d2 := hBD.cell 2
  have d3 := hBD.cell 3
  have d4 := hBD.cell 4
  have d5 := hBD.cell 5
  have d6 := hBD.cell 6
  have d7 := hBD.cell 7
  have d8 := hBD.cell 8
  have d9 := hBD.cell 9
  simp at d0 d1 d2 d3 d4 d5 d6 d7 d8 d9
  have e0 := hER.cell 0
  simp at e0
  have kd0 := cell_regrown d0
  have kd1 := cell_regrown d1
  have kd2 := cell_regrown d2
  have kd3 := cell_regrown d3
  have kd4 := cell_regrown d4
  have kd5 := cell_regrown d5
  have kd6 := cell_regrown d6
  have kd7 := cell_regrown d7
  have kd8 := cell_regrown d8
  have kd9 := cell_regrown d9
  have ke0 := cell_regrown e0
  have kkC := fun d os => Calls.regrown_of (kc (grow (redrawn u10 d) os))
  have kkL := fun d os => Calls.regrown_of (kl (grow (redrawn u10 d) os))
  refine wp_region_quiet_below (by kernel_rfl) (by kernel_rfl) ?_
  repeat (go_big_quiet_step (first | with_reducible exact kkC _ _ | with_reducible exact kkL _ _))
  refine wpQuiet_nil ?_
  intro _ hw'
  obtain ⟨⟨dq, osq⟩, hw''⟩ := hw'
  subst hw''
  replace hV := hV.keep (below_regrown u10 dq osq) hV.inside
  replace hBD := hBD.keep (below_regrown u10 dq osq) hBD.inside
  replace hER := hER.keep (below_regrown u10 dq osq) hER.inside
  replace hB := hB.trans ((below_regrown u10 dq osq).mono hB.size)
  generalize grow (redrawn u10 dq) osq = u11 at *
  clear kc kl kkC kkL e0 ke0 d0 d1 d2 d3 d4 d5 d6 d7 d8 d9 kd0 kd1 kd2 kd3 kd4 kd5 kd6 kd7 kd8 kd9
  go_wp2_with fail
  have kt : ∀ w, Calls Try.prog 17 #[.agg #[.int .i64 1024, .int .i64 1023, .int .i64 0, .int .i64 0, .int .i64 0, .int .i64 1048576, .int .i64 1048576, .int .i64 1048576, .int .i64 1000, .int .i64 1000]] w fun r w' => r = .returned (.tuple #[.agg #[.int .i64 0, .int .i64 0, .int .i64 0, .int .i64 0, .int .i64 0, .int .i64 0, .int .i64 0, .int .i64 0, .int .i64 0, .int .i64 0], .bool false]) ∧ Below w.heap.size w w' := fun w => by have h := Tight_any 1024 1023 0 0 0 1048576 1048576 1048576 1000 1000 w; rw [show tightB 1024 1023 0 0 0 1048576 1048576 1048576 1000 1000 = false by decide] at h; exact h
  have ka : ∀ w, Calls Try.prog 15 #[.agg #[.int .i64 1024, .int .i64 1023, .int .i64 0, .int .i64 0, .int .i64 0, .int .i64 1048576, .int .i64 1048576, .int .i64 1048576, .int .i64 1000, .int .i64 1000], .agg #[.int .i64 0, .int .i64 1, .int .i64 5, .int .i64 0, .int .i64 60]] w fun r w' => r = .returned (.tuple #[.int .i64 0, .bool false]) ∧ Below w.heap.size w w' := fun w => by have h := Alone_any 1024 1023 0 0 0 1048576 1048576 1048576 1000 1000 0 1 5 0 60 w; rw [show aloneV 1024 1023 0 0 0 1048576 1048576 1048576 1000 1000 0 1 5 0 60 = 0 by decide, show aloneB 1024 1023 0 0 0 1048576 1048576 1048576 1000 1000 0 1 5 0 60 = false by decide] at h; exact h
  have kc : ∀ w, Calls Try.prog 10 #[.agg #[.int .i64 1024, .int .i64 1023, .int .i64 0, .int .i64 0, .int .i64 0, .int .i64 1048576, .int .i64 1048576, .int .i64 1048576, .int .i64 1000, .int .i64 1000]] w fun r w' => r = .returned (.int .i64 4) ∧ Below w.heap.size w w' := fun w => by have h := Check_any 1024 1023 0 0 0 1048576 1048576 1048576 1000 1000 w; rw [show chk 1024 1023 0 0 0 1048576 1048576 1048576 1000 1000 = 4 by decide] at h; exact h
  have kl : ∀ w, Calls Try.prog 19 #[.agg #[.int .i64 1024, .int .i64 1023, .int .i64 0, .int .i64 0, .int .i64 0, .int .i64 1048576, .int .i64 1048576, .int .i64 1048576, .int .i64 1000, .int .i64 1000]] w fun r w' => r = .returned (.int .i64 0) ∧ Below w.heap.size w w' := fun w => by have h := Least_any 1024 1023 0 0 0 1048576 1048576 1048576 1000 1000 w; rw [show leastV 1024 1023 0 0 0 1048576 1048576 1048576 1000 1000 = 0 by decide] at h; exact h
  rw [rounds_succ]
  have d0 := hBD.cell 10
  have d1 := hBD.cell 11
  have d2 := hBD.cell 12
  have d3 := hBD.cell 13
  have d4 := hBD.cell 14
  have d5 := hBD.cell 15
  have d6 := hBD.cell 16
  have d7 := hBD.cell 17
  have d8 := hBD.cell 18
  have d9 := hBD.cell 19
  simp at d0 d1 d2 d3 d4 d5 d6 d7 d8 d9
  have hiV := hV.inside
  have hiBD := hBD.inside
  have hiER := hER.inside
  go_wp2_with fail
  clear d0 d1 d2 d3 d4 d5 d6 d7 d8 d9
  clear hiV hiBD hiER
  refine (kt _).mono ?_
  rintro e u12 ⟨rfl, hb1⟩
  replace hV := hV.keep hb1 hV.inside
  replace hBD := hBD.keep hb1 hBD.inside
  replace hER := hER.keep hb1 hER.inside
  replace hB := hB.trans (hb1.mono hB.size)
  clear hb1 kt
  have d0 := hBD.cell 10
  have d1 := hBD.cell 11
  have d2 := hBD.cell 12
  have d3 := hBD.cell 13
  have d4 := hBD.cell 14
  have d5 := hBD.cell 15
  have d6 := hBD.cell 16
  have d7 := hBD.cell 17
  have d8 := hBD.cell 18
  have d9 := hBD.cell 19
  simp at d0 d1 d2 d3 d4 d5 d6 d7 d8 d9
  have hiV := hV.inside
  have hiBD := hBD.inside
  have hiER := hER.inside
  go_wp2_with fail
  clear d0 d1 d2 d3 d4 d5 d6 d7 d8 d9
  clear hiV hiBD hiER
  have hZZ := At.new u12 27 #[.int .i64 0, .int .i64 0, .int .i64 0, .int .i64 0, .int .i64 0, .int .i64 0, .int .i64 0, .int .i64 0, .int .i64 0, .int .i64 0]
  replace hV := hV.alloc (.cells #[.int .i64 0, .int .i64 0, .int .i64 0, .int .i64 0, .int .i64 0, .int .i64 0, .int .i64 0, .int .i64 0, .int .i64 0, .int .i64 0] 27)
  replace hBD := hBD.alloc (.cells #[.int .i64 0, .int .i64 0, .int .i64 0, .int .i64 0, .int .i64 0, .int .i64 0, .int .i64 0, .int .i64 0, .int .i64 0, .int .i64 0] 27)
  replace hER := hER.alloc (.cells #[.int .i64 0, .int .i64 0, .int .i64 0, .int .i64 0, .int .i64 0, .int .i64 0, .int .i64 0, .int .i64 0, .int .i64 0, .int .i64 0] 27)
  replace hB := hB.alloc hB.size (.cells #[.int .i64 0, .int .i64 0, .int .i64 0, .int .i64 0, .int .i64 0, .int .i64 0, .int .i64 0, .int .i64 0, .int .i64 0, .int .i64 0] 27)
  generalize (u12.alloc (.cells #[.int .i64 0, .int .i64 0, .int .i64 0, .int .i64 0, .int .i64 0, .int .i64 0, .int .i64 0, .int .i64 0, .int .i64 0, .int .i64 0] 27)) = u13 at *
  generalize u12.heap.size = gu13 at *
  clear hZZ
  have d0 := hBD.cell 10
  have d1 := hBD.cell 11
  have d2 := hBD.cell 12
  have d3 := hBD.cell 13
  have d4 := hBD.cell 14
  have d5 := hBD.cell 15
  have d6 := hBD.cell 16
  have d7 := hBD.cell 17
  have d8 := hBD.cell 18
  have d9 := hBD.cell 19
  simp at d0 d1 d2 d3 d4 d5 d6 d7 d8 d9
  have v0 := hV.cell 0
  have v1 := hV.cell 1
  have v2 := hV.cell 2
  have v3 := hV.cell 3
  have v4 := hV.cell 4
  simp at v0 v1 v2 v3 v4
  have kd0 := cell_regrown d0
  have kd1 := cell_regrown d1
  have kd2 := cell_regrown d2
  have kd3 := cell_regrown d3
  have kd4 := cell_regrown d4
  have kd5 := cell_regrown d5
  have kd6 := cell_regrown d6
  have kd7 := cell_regrown d7
  have kd8 := cell_regrown d8
  have kd9 := cell_regrown d9
  have kv0 := cell_regrown v0
  have kv1 := cell_regrown v1
  have kv2 := cell_regrown v2
  have kv3 := cell_regrown v3
  have kv4 := cell_regrown v4
  have kkA := fun d os => Calls.regrown_of (ka (grow (redrawn u13 d) os))
  refine wp_region_quiet_below (by kernel_rfl) (by kernel_rfl) ?_
  repeat (go_big_quiet_step (with_reducible exact kkA _ _))
  refine wpQuiet_nil ?_
  intro _ hw'
  obtain ⟨⟨dq, osq⟩, hw''⟩ := hw'
  subst hw''
  replace hV := hV.keep (below_regrown u13 dq osq) hV.inside
  replace hBD := hBD.keep (below_regrown u13 dq osq) hBD.inside
  replace hER := hER.keep (below_regrown u13 dq osq) hER.inside
  replace hB := hB.trans ((below_regrown u13 dq osq).mono hB.size)
  generalize grow (redrawn u13 dq) osq = u14 at *
  clear ka kkA d0 d1 d2 d3 d4 d5 d6 d7 d8 d9 kd0 kd1 kd2 kd3 kd4 kd5 kd6 kd7 kd8 kd9 v0 v1 v2 v3 v4 kv0 kv1 kv2 kv3 kv4
  go_wp2_with fail
  have d0 := hBD.cell 10
  have d1 := hBD.cell 11
  have d2 := hBD.cell 12
  have d3 := hBD.cell 13
  have d4 := hBD.cell 14
  have d5 := hBD.cell 15
  have d6 := hBD.cell 16
  have d7 := hBD.cell 17
  have d8 := hBD.cell 18
  have d9 := hBD.cell 19
  simp at d0 d1 d2 d3 d4 d5 d6 d7 d8 d9
  have e0 := hER.cell 1
  simp at e0
  have kd0 := cell_regrown d0
  have kd1 := cell_regrown d1
  have kd2 := cell_regrown d2
  have kd3 := cell_regrown d3
  have kd4 := cell_regrown d4
  have kd5 := cell_regrown d5
  have kd6 := cell_regrown d6
  have kd7 := cell_regrown d7
  have kd8 := cell_regrown d8
  have kd9 := cell_regrown d9
  have ke0 := cell_regrown e0
  have kkC := fun d os => Calls.regrown_of (kc (grow (redrawn u14 d) os))
  have kkL := fun d os => Calls.regrown_of (kl (grow (redrawn u14 d) os))
  refine wp_region_quiet_below (by kernel_rfl) (by kernel_rfl) ?_
  repeat (go_big_quiet_step (first | with_reducible exact kkC _ _ | with_reducible exact kkL _ _))
  refine wpQuiet_nil ?_
  intro _ hw'
  obtain ⟨⟨dq, osq⟩, hw''⟩ := hw'
  subst hw''
  replace hV := hV.keep (below_regrown u14 dq osq) hV.inside
  replace hBD := hBD.keep (below_regrown u14 dq osq) hBD.inside
  replace hER := hER.keep (below_regrown u14 dq osq) hER.inside
  replace hB := hB.trans ((below_regrown u14 dq osq).mono hB.size)
  generalize grow (redrawn u14 dq) osq = u15 at *
  clear kc kl kkC kkL e0 ke0 d0 d1 d2 d3 d4 d5 d6 d7 d8 d9 kd0 kd1 kd2 kd3 kd4 kd5 kd6 kd7 kd8 kd9
  go_wp2_with fail
  have kt : ∀ w, Calls Try.prog 17 #[.agg #[.int .i64 1023, .int .i64 1023, .int .i64 0, .int .i64 0, .int .i64 0, .int .i64 1048577, .int .i64 1048576, .int .i64 1048576, .int .i64 1000, .int .i64 1000]] w fun r w' => r = .returned (.tuple #[.agg #[.int .i64 0, .int .i64 0, .int .i64 0, .int .i64 0, .int .i64 0, .int .i64 0, .int .i64 0, .int .i64 0, .int .i64 0, .int .i64 0], .bool false]) ∧ Below w.heap.size w w' := fun w => by have h := Tight_any 1023 1023 0 0 0 1048577 1048576 1048576 1000 1000 w; rw [show tightB 1023 1023 0 0 0 1048577 1048576 1048576 1000 1000 = false by decide] at h; exact h
  have ka : ∀ w, Calls Try.prog 15 #[.agg #[.int .i64 1023, .int .i64 1023, .int .i64 0, .int .i64 0, .int .i64 0, .int .i64 1048577, .int .i64 1048576, .int .i64 1048576, .int .i64 1000, .int .i64 1000], .agg #[.int .i64 0, .int .i64 1, .int .i64 5, .int .i64 0, .int .i64 60]] w fun r w' => r = .returned (.tuple #[.int .i64 0, .bool false]) ∧ Below w.heap.size w w' := fun w => by have h := Alone_any 1023 1023 0 0 0 1048577 1048576 1048576 1000 1000 0 1 5 0 60 w; rw [show aloneV 1023 1023 0 0 0 1048577 1048576 1048576 1000 1000 0 1 5 0 60 = 0 by decide, show aloneB 1023 1023 0 0 0 1048577 1048576 1048576 1000 1000 0 1 5 0 60 = false by decide] at h; exact h
  have kc : ∀ w, Calls Try.prog 10 #[.agg #[.int .i64 1023, .int .i64 1023, .int .i64 0, .int .i64 0, .int .i64 0, .int .i64 1048577, .int .i64 1048576, .int .i64 1048576, .int .i64 1000, .int .i64 1000]] w fun r w' => r = .returned (.int .i64 5) ∧ Below w.heap.size w w' := fun w => by have h := Check_any 1023 1023 0 0 0 1048577 1048576 1048576 1000 1000 w; rw [show chk 1023 1023 0 0 0 1048577 1048576 1048576 1000 1000 = 5 by decide] at h; exact h
  have kl : ∀ w, Calls Try.prog 19 #[.agg #[.int .i64 1023, .int .i64 1023, .int .i64 0, .int .i64 0, .int .i64 0, .int .i64 1048577, .int .i64 1048576, .int .i64 1048576, .int .i64 1000, .int .i64 1000]] w fun r w' => r = .returned (.int .i64 0) ∧ Below w.heap.size w w' := fun w => by have h := Least_any 1023 1023 0 0 0 1048577 1048576 1048576 1000 1000 w; rw [show leastV 1023 1023 0 0 0 1048577 1048576 1048576 1000 1000 = 0 by decide] at h; exact h
  rw [rounds_succ]
  have d0 := hBD.cell 20
  have d1 := hBD.cell 21
  have d2 := hBD.cell 22
  have d3 := hBD.cell 23
  have d4 := hBD.cell 24
  have d5 := hBD.cell 25
  have d6 := hBD.cell 26
  have d7 := hBD.cell 27
  have d8 := hBD.cell 28
  have d9 := hBD.cell 29
  simp at d0 d1 d2 d3 d4 d5 d6 d7 d8 d9
  have hiV := hV.inside
  have hiBD := hBD.inside
  have hiER := hER.inside
  go_wp2_with fail
  clear d0 d1 d2 d3 d4 d5 d6 d7 d8 d9
  clear hiV hiBD hiER
  refine (kt _).mono ?_
  rintro e u16 ⟨rfl, hb1⟩
  replace hV := hV.keep hb1 hV.inside
  replace hBD := hBD.keep hb1 hBD.inside
  replace hER := hER.keep hb1 hER.inside
  replace hB := hB.trans (hb1.mono hB.size)
  clear hb1 kt
  have d0 := hBD.cell 20
  have d1 := hBD.cell 21
  have d2 := hBD.cell 22
  have d3 := hBD.cell 23
  have d4 := hBD.cell 24
  have d5 := hBD.cell 25
  have d6 := hBD.cell 26
  have d7 := hBD.cell 27
  have d8 := hBD.cell 28
  have d9 := hBD.cell 29
  simp at d0 d1 d2 d3 d4 d5 d6 d7 d8 d9
  have hiV := hV.inside
  have hiBD := hBD.inside
  have hiER := hER.inside
  go_wp2_with fail
  clear d0 d1 d2 d3 d4 d5 d6 d7 d8 d9
  clear hiV hiBD hiER
  have hZZ := At.new u16 27 #[.int .i64 0, .int .i64 0, .int .i64 0, .int .i64 0, .int .i64 0, .int .i64 0, .int .i64 0, .int .i64 0, .int .i64 0, .int .i64 0]
  replace hV := hV.alloc (.cells #[.int .i64 0, .int .i64 0, .int .i64 0, .int .i64 0, .int .i64 0, .int .i64 0, .int .i64 0, .int .i64 0, .int .i64 0, .int .i64 0] 27)
  replace hBD := hBD.alloc (.cells #[.int .i64 0, .int .i64 0, .int .i64 0, .int .i64 0, .int .i64 0, .int .i64 0, .int .i64 0, .int .i64 0, .int .i64 0, .int .i64 0] 27)
  replace hER := hER.alloc (.cells #[.int .i64 0, .int .i64 0, .int .i64 0, .int .i64 0, .int .i64 0, .int .i64 0, .int .i64 0, .int .i64 0, .int .i64 0, .int .i64 0] 27)
  replace hB := hB.alloc hB.size (.cells #[.int .i64 0, .int .i64 0, .int .i64 0, .int .i64 0, .int .i64 0, .int .i64 0, .int .i64 0, .int .i64 0, .int .i64 0, .int .i64 0] 27)
  generalize (u16.alloc (.cells #[.int .i64 0, .int .i64 0, .int .i64 0, .int .i64 0, .int .i64 0, .int .i64 0, .int .i64 0, .int .i64 0, .int .i64 0, .int .i64 0] 27)) = u17 at *
  generalize u16.heap.size = gu17 at *
  clear hZZ
  have d0 := hBD.cell 20
  have d1 := hBD.cell 21
  have d2 := hBD.cell 22
  have d3 := hBD.cell 23
  have d4 := hBD.cell 24
  have d5 := hBD.cell 25
  have d6 := hBD.cell 26
  have d7 := hBD.cell 27
  have d8 := hBD.cell 28
  have d9 := hBD.cell 29
  simp at d0 d1 d2 d3 d4 d5 d6 d7 d8 d9
  have v0 := hV.cell 0
  have v1 := hV.cell 1
  have v2 := hV.cell 2
  have v3 := hV.cell 3
  have v4 := hV.cell 4
  simp at v0 v1 v2 v3 v4
  have kd0 := cell_regrown d0
  have kd1 := cell_regrown d1
  have kd2 := cell_regrown d2
  have kd3 := cell_regrown d3
  have kd4 := cell_regrown d4
  have kd5 := cell_regrown d5
  have kd6 := cell_regrown d6
  have kd7 := cell_regrown d7
  have kd8 := cell_regrown d8
  have kd9 := cell_regrown d9
  have kv0 := cell_regrown v0
  have kv1 := cell_regrown v1
  have kv2 := cell_regrown v2
  have kv3 := cell_regrown v3
  have kv4 := cell_regrown v4
  have kkA := fun d os => Calls.regrown_of (ka (grow (redrawn u17 d) os))
  refine wp_region_quiet_below (by kernel_rfl) (by kernel_rfl) ?_
  repeat (go_big_quiet_step (with_reducible exact kkA _ _))
  refine wpQuiet_nil ?_
  intro _ hw'
  obtain ⟨⟨dq, osq⟩, hw''⟩ := hw'
  subst hw''
  replace hV := hV.keep (below_regrown u17 dq osq) hV.inside
  replace hBD := hBD.keep (below_regrown u17 dq osq) hBD.inside
  replace hER := hER.keep (below_regrown u17 dq osq) hER.inside
  replace hB := hB.trans ((below_regrown u17 dq osq).mono hB.size)
  generalize grow (redrawn u17 dq) osq = u18 at *
  clear ka kkA d0 d1 d2 d3 d4 d5 d6 d7 d8 d9 kd0 kd1 kd2 kd3 kd4 kd5 kd6 kd7 kd8 kd9 v0 v1 v2 v3 v4 kv0 kv1 kv2 kv3 kv4
  go_wp2_with fail
  have d0 := hBD.cell 20
  have d1 := hBD.cell 21
  have d2 := hBD.cell 22
  have d3 := hBD.cell 23
  have d4 := hBD.cell 24
  have d5 := hBD.cell 25
  have d6 := hBD.cell 26
  have d7 := hBD.cell 27
  have d8 := hBD.cell 28
  have d9 := hBD.cell 29
  simp at d0 d1 d2 d3 d4 d5 d6 d7 d8 d9
  have e0 := hER.cell 2
  simp at e0
  have kd0 := cell_regrown d0
  have kd1 := cell_regrown d1
  have kd2 := cell_regrown d2
  have kd3 := cell_regrown d3
  have kd4 := cell_regrown d4
  have kd5 := cell_regrown d5
  have kd6 := cell_regrown d6
  have kd7 := cell_regrown d7
  have kd8 := cell_regrown d8
  have kd9 := cell_regrown d9
  have ke0 := cell_regrown e0
  have kkC := fun d os => Calls.regrown_of (kc (grow (redrawn u18 d) os))
  have kkL := fun d os => Calls.regrown_of (kl (grow (redrawn u18 d) os))
  refine wp_region_quiet_below (by kernel_rfl) (by kernel_rfl) ?_
  repeat (go_big_quiet_step (first | with_reducible exact kkC _ _ | with_reducible exact kkL _ _))
  refine wpQuiet_nil ?_
  intro _ hw'
  obtain ⟨⟨dq, osq⟩, hw''⟩ := hw'
  subst hw''
  replace hV := hV.keep (below_regrown u18 dq osq) hV.inside
  replace hBD := hBD.keep (below_regrown u18 dq osq) hBD.inside
  replace hER := hER.keep (below_regrown u18 dq osq) hER.inside
  replace hB := hB.trans ((below_regrown u18 dq osq).mono hB.size)
  generalize grow (redrawn u18 dq) osq = u19 at *
  clear kc kl kkC kkL e0 ke0 d0 d1 d2 d3 d4 d5 d6 d7 d8 d9 kd0 kd1 kd2 kd3 kd4 kd5 kd6 kd7 kd8 kd9
  go_wp2_with fail
  have kt : ∀ w, Calls Try.prog 17 #[.agg #[.int .i64 1023, .int .i64 1023, .int .i64 0, .int .i64 0, .int .i64 0, .int .i64 1048576, .int .i64 1048577, .int .i64 1048576, .int .i64 1000, .int .i64 1000]] w fun r w' => r = .returned (.tuple #[.agg #[.int .i64 0, .int .i64 0, .int .i64 0, .int .i64 0, .int .i64 0, .int .i64 0, .int .i64 0, .int .i64 0, .int .i64 0, .int .i64 0], .bool false]) ∧ Below w.heap.size w w' := fun w => by have h := Tight_any 1023 1023 0 0 0 1048576 1048577 1048576 1000 1000 w; rw [show tightB 1023 1023 0 0 0 1048576 1048577 1048576 1000 1000 = false by decide] at h; exact h
  have ka : ∀ w, Calls Try.prog 15 #[.agg #[.int .i64 1023, .int .i64 1023, .int .i64 0, .int .i64 0, .int .i64 0, .int .i64 1048576, .int .i64 1048577, .int .i64 1048576, .int .i64 1000, .int .i64 1000], .agg #[.int .i64 0, .int .i64 1, .int .i64 5, .int .i64 0, .int .i64 60]] w fun r w' => r = .returned (.tuple #[.int .i64 0, .bool false]) ∧ Below w.heap.size w w' := fun w => by have h := Alone_any 1023 1023 0 0 0 1048576 1048577 1048576 1000 1000 0 1 5 0 60 w; rw [show aloneV 1023 1023 0 0 0 1048576 1048577 1048576 1000 1000 0 1 5 0 60 = 0 by decide, show aloneB 1023 1023 0 0 0 1048576 1048577 1048576 1000 1000 0 1 5 0 60 = false by decide] at h; exact h
  have kc : ∀ w, Calls Try.prog 10 #[.agg #[.int .i64 1023, .int .i64 1023, .int .i64 0, .int .i64 0, .int .i64 0, .int .i64 1048576, .int .i64 1048577, .int .i64 1048576, .int .i64 1000, .int .i64 1000]] w fun r w' => r = .returned (.int .i64 5) ∧ Below w.heap.size w w' := fun w => by have h := Check_any 1023 1023 0 0 0 1048576 1048577 1048576 1000 1000 w; rw [show chk 1023 1023 0 0 0 1048576 1048577 1048576 1000 1000 = 5 by decide] at h; exact h
  have kl : ∀ w, Calls Try.prog 19 #[.agg #[.int .i64 1023, .int .i64 1023, .int .i64 0, .int .i64 0, .int .i64 0, .int .i64 1048576, .int .i64 1048577, .int .i64 1048576, .int .i64 1000, .int .i64 1000]] w fun r w' => r = .returned (.int .i64 0) ∧ Below w.heap.size w w' := fun w => by have h := Least_any 1023 1023 0 0 0 1048576 1048577 1048576 1000 1000 w; rw [show leastV 1023 1023 0 0 0 1048576 1048577 1048576 1000 1000 = 0 by decide] at h; exact h
  rw [rounds_succ]
  have d0 := hBD.cell 30
  have d1 := hBD.cell 31
  have d2 := hBD.cell 32
  have d3 := hBD.cell 33
  have d4 := hBD.cell 34
  have d5 := hBD.cell 35
  have d6 := hBD.cell 36
  have d7 := hBD.cell 37
  have d8 := hBD.cell 38
  have d9 := hBD.cell 39
  simp at d0 d1 d2 d3 d4 d5 d6 d7 d8 d9
  have hiV := hV.inside
  have hiBD := hBD.inside
  have hiER := hER.inside
  go_wp2_with fail
  clear d0 d1 d2 d3 d4 d5 d6 d7 d8 d9
  clear hiV hiBD hiER
  refine (kt _).mono ?_
  rintro e u20 ⟨rfl, hb1⟩
  replace hV := hV.keep hb1 hV.inside
  replace hBD := hBD.keep hb1 hBD.inside
  replace hER := hER.keep hb1 hER.inside
  replace hB := hB.trans (hb1.mono hB.size)
  clear hb1 kt
  have d0 := hBD.cell 30
  have d1 := hBD.cell 31
  have d2 := hBD.cell 32
  have d3 := hBD.cell 33
  have d4 := hBD.cell 34
  have d5 := hBD.cell 35
  have d6 := hBD.cell 36
  have d7 := hBD.cell 37
  have d8 := hBD.cell 38
  have d9 := hBD.cell 39
  simp at d0 d1 d2 d3 d4 d5 d6 d7 d8 d9
  have hiV := hV.inside
  have hiBD := hBD.inside
  have hiER := hER.inside
  go_wp2_with fail
  clear d0 d1 d2 d3 d4 d5 d6 d7 d8 d9
  clear hiV hiBD hiER
  have hZZ := At.new u20 27 #[.int .i64 0, .int .i64 0, .int .i64 0, .int .i64 0, .int .i64 0, .int .i64 0, .int .i64 0, .int .i64 0, .int .i64 0, .int .i64 0]
  replace hV := hV.alloc (.cells #[.int .i64 0, .int .i64 0, .int .i64 0, .int .i64 0, .int .i64 0, .int .i64 0, .int .i64 0, .int .i64 0, .int .i64 0, .int .i64 0] 27)
  replace hBD := hBD.alloc (.cells #[.int .i64 0, .int .i64 0, .int .i64 0, .int .i64 0, .int .i64 0, .int .i64 0, .int .i64 0, .int .i64 0, .int .i64 0, .int .i64 0] 27)
  replace hER := hER.alloc (.cells #[.int .i64 0, .int .i64 0, .int .i64 0, .int .i64 0, .int .i64 0, .int .i64 0, .int .i64 0, .int .i64 0, .int .i64 0, .int .i64 0] 27)
  replace hB := hB.alloc hB.size (.cells #[.int .i64 0, .int .i64 0, .int .i64 0, .int .i64 0, .int .i64 0, .int .i64 0, .int .i64 0, .int .i64 0, .int .i64 0, .int .i64 0] 27)
  generalize (u20.alloc (.cells #[.int .i64 0, .int .i64 0, .int .i64 0, .int .i64 0, .int .i64 0, .int .i64 0, .int .i64 0, .int .i64 0, .int .i64 0, .int .i64 0] 27)) = u21 at *
  generalize u20.heap.size = gu21 at *
  clear hZZ
  have d0 := hBD.cell 30
  have d1 := hBD.cell 31
  have d2 := hBD.cell 32
  have d3 := hBD.cell 33
  have d4 := hBD.cell 34
  have d5 := hBD.cell 35
  have d6 := hBD.cell 36
  have d7 := hBD.cell 37
  have d8 := hBD.cell 38
  have d9 := hBD.cell 39
  simp at d0 d1 d2 d3 d4 d5 d6 d7 d8 d9
  have v0 := hV.cell 0
  have v1 := hV.cell 1
  have v2 := hV.cell 2
  have v3 := hV.cell 3
  have v4 := hV.cell 4
  simp at v0 v1 v2 v3 v4
  have kd0 := cell_regrown d0
  have kd1 := cell_regrown d1
  have kd2 := cell_regrown d2
  have kd3 := cell_regrown d3
  have kd4 := cell_regrown d4
  have kd5 := cell_regrown d5
  have kd6 := cell_regrown d6
  have kd7 := cell_regrown d7
  have kd8 := cell_regrown d8
  have kd9 := cell_regrown d9
  have kv0 := cell_regrown v0
  have kv1 := cell_regrown v1
  have kv2 := cell_regrown v2
  have kv3 := cell_regrown v3
  have kv4 := cell_regrown v4
  have kkA := fun d os => Calls.regrown_of (ka (grow (redrawn u21 d) os))
  refine wp_region_quiet_below (by kernel_rfl) (by kernel_rfl) ?_
  repeat (go_big_quiet_step (with_reducible exact kkA _ _))
  refine wpQuiet_nil ?_
  intro _ hw'
  obtain ⟨⟨dq, osq⟩, hw''⟩ := hw'
  subst hw''
  replace hV := hV.keep (below_regrown u21 dq osq) hV.inside
  replace hBD := hBD.keep (below_regrown u21 dq osq) hBD.inside
  replace hER := hER.keep (below_regrown u21 dq osq) hER.inside
  replace hB := hB.trans ((below_regrown u21 dq osq).mono hB.size)
  generalize grow (redrawn u21 dq) osq = u22 at *
  clear ka kkA d0 d1 d2 d3 d4 d5 d6 d7 d8 d9 kd0 kd1 kd2 kd3 kd4 kd5 kd6 kd7 kd8 kd9 v0 v1 v2 v3 v4 kv0 kv1 kv2 kv3 kv4
  go_wp2_with fail
  have d0 := hBD.cell 30
  have d1 := hBD.cell 31
  have d2 := hBD.cell 32
  have d3 := hBD.cell 33
  have d4 := hBD.cell 34
  have d5 := hBD.cell 35
  have d6 := hBD.cell 36
  have d7 := hBD.cell 37
  have d8 := hBD.cell 38
  have d9 := hBD.cell 39
  simp at d0 d1 d2 d3 d4 d5 d6 d7 d8 d9
  have e0 := hER.cell 3
  simp at e0
  have kd0 := cell_regrown d0
  have kd1 := cell_regrown d1
  have kd2 := cell_regrown d2
  have kd3 := cell_regrown d3
  have kd4 := cell_regrown d4
  have kd5 := cell_regrown d5
  have kd6 := cell_regrown d6
  have kd7 := cell_regrown d7
  have kd8 := cell_regrown d8
  have kd9 := cell_regrown d9
  have ke0 := cell_regrown e0
  have kkC := fun d os => Calls.regrown_of (kc (grow (redrawn u22 d) os))
  have kkL := fun d os => Calls.regrown_of (kl (grow (redrawn u22 d) os))
  refine wp_region_quiet_below (by kernel_rfl) (by kernel_rfl) ?_
  repeat (go_big_quiet_step (first | with_reducible exact kkC _ _ | with_reducible exact kkL _ _))
  refine wpQuiet_nil ?_
  intro _ hw'
  obtain ⟨⟨dq, osq⟩, hw''⟩ := hw'
  subst hw''
  replace hV := hV.keep (below_regrown u22 dq osq) hV.inside
  replace hBD := hBD.keep (below_regrown u22 dq osq) hBD.inside
  replace hER := hER.keep (below_regrown u22 dq osq) hER.inside
  replace hB := hB.trans ((below_regrown u22 dq osq).mono hB.size)
  generalize grow (redrawn u22 dq) osq = u23 at *
  clear kc kl kkC kkL e0 ke0 d0 d1 d2 d3 d4 d5 d6 d7 d8 d9 kd0 kd1 kd2 kd3 kd4 kd5 kd6 kd7 kd8 kd9
  go_wp2_with fail
  have kt : ∀ w, Calls Try.prog 17 #[.agg #[.int .i64 1023, .int .i64 1023, .int .i64 0, .int .i64 0, .int .i64 0, .int .i64 1048576, .int .i64 1048576, .int .i64 1048576, .int .i64 1001, .int .i64 1000]] w fun r w' => r = .returned (.tuple #[.agg #[.int .i64 0, .int .i64 0, .int .i64 0, .int .i64 0, .int .i64 0, .int .i64 0, .int .i64 0, .int .i64 0, .int .i64 0, .int .i64 0], .bool false]) ∧ Below w.heap.size w w' := fun w => by have h := Tight_any 1023 1023 0 0 0 1048576 1048576 1048576 1001 1000 w; rw [show tightB 1023 1023 0 0 0 1048576 1048576 1048576 1001 1000 = false by decide] at h; exact h
  have ka : ∀ w, Calls Try.prog 15 #[.agg #[.int .i64 1023, .int .i64 1023, .int .i64 0, .int .i64 0, .int .i64 0, .int .i64 1048576, .int .i64 1048576, .int .i64 1048576, .int .i64 1001, .int .i64 1000], .agg #[.int .i64 0, .int .i64 1, .int .i64 5, .int .i64 0, .int .i64 60]] w fun r w' => r = .returned (.tuple #[.int .i64 0, .bool false]) ∧ Below w.heap.size w w' := fun w => by have h := Alone_any 1023 1023 0 0 0 1048576 1048576 1048576 1001 1000 0 1 5 0 60 w; rw [show aloneV 1023 1023 0 0 0 1048576 1048576 1048576 1001 1000 0 1 5 0 60 = 0 by decide, show aloneB 1023 1023 0 0 0 1048576 1048576 1048576 1001 1000 0 1 5 0 60 = false by decide] at h; exact h
  have kc : ∀ w, Calls Try.prog 10 #[.agg #[.int .i64 1023, .int .i64 1023, .int .i64 0, .int .i64 0, .int .i64 0, .int .i64 1048576, .int .i64 1048576, .int .i64 1048576, .int .i64 1001, .int .i64 1000]] w fun r w' => r = .returned (.int .i64 6) ∧ Below w.heap.size w w' := fun w => by have h := Check_any 1023 1023 0 0 0 1048576 1048576 1048576 1001 1000 w; rw [show chk 1023 1023 0 0 0 1048576 1048576 1048576 1001 1000 = 6 by decide] at h; exact h
  have kl : ∀ w, Calls Try.prog 19 #[.agg #[.int .i64 1023, .int .i64 1023, .int .i64 0, .int .i64 0, .int .i64 0, .int .i64 1048576, .int .i64 1048576, .int .i64 1048576, .int .i64 1001, .int .i64 1000]] w fun r w' => r = .returned (.int .i64 0) ∧ Below w.heap.size w w' := fun w => by have h := Least_any 1023 1023 0 0 0 1048576 1048576 1048576 1001 1000 w; rw [show leastV 1023 1023 0 0 0 1048576 1048576 1048576 1001 1000 = 0 by decide] at h; exact h
  rw [rounds_succ]
  have d0 := hBD.cell 40
  have d1 := hBD.cell 41
  have d2 := hBD.cell 42
  have d3 := hBD.cell 43
  have d4 := hBD.cell 44
  have d5 := hBD.cell 45
  have d6 := hBD.cell 46
  have d7 := hBD.cell 47
  have d8 := hBD.cell 48
  have d9 := hBD.cell 49
  simp at d0 d1 d2 d3 d4 d5 d6 d7 d8 d9
  have hiV := hV.inside
  have hiBD := hBD.inside
  have hiER := hER.inside
  go_wp2_with fail
  clear d0 d1 d2 d3 d4 d5 d6 d7 d8 d9
  clear hiV hiBD hiER
  refine (kt _).mono ?_
  rintro e u24 ⟨rfl, hb1⟩
  replace hV := hV.keep hb1 hV.inside
  replace hBD := hBD.keep hb1 hBD.inside
  replace hER := hER.keep hb1 hER.inside
  replace hB := hB.trans (hb1.mono hB.size)
  clear hb1 kt
  have d0 := hBD.cell 40
  have d1 := hBD.cell 41
  have d2 := hBD.cell 42
  have d3 := hBD.cell 43
  have d4 := hBD.cell 44
  have d5 := hBD.cell 45
  have d6 := hBD.cell 46
  have d7 := hBD.cell 47
  have d8 := hBD.cell 48
  have d9 := hBD.cell 49
  simp at d0 d1 d2 d3 d4 d5 d6 d7 d8 d9
  have hiV := hV.inside
  have hiBD := hBD.inside
  have hiER := hER.inside
  go_wp2_with fail
  clear d0 d1 d2 d3 d4 d5 d6 d7 d8 d9
  clear hiV hiBD hiER
  have hZZ := At.new u24 27 #[.int .i64 0, .int .i64 0, .int .i64 0, .int .i64 0, .int .i64 0, .int .i64 0, .int .i64 0, .int .i64 0, .int .i64 0, .int .i64 0]
  replace hV := hV.alloc (.cells #[.int .i64 0, .int .i64 0, .int .i64 0, .int .i64 0, .int .i64 0, .int .i64 0, .int .i64 0, .int .i64 0, .int .i64 0, .int .i64 0] 27)
  replace hBD := hBD.alloc (.cells #[.int .i64 0, .int .i64 0, .int .i64 0, .int .i64 0, .int .i64 0, .int .i64 0, .int .i64 0, .int .i64 0, .int .i64 0, .int .i64 0] 27)
  replace hER := hER.alloc (.cells #[.int .i64 0, .int .i64 0, .int .i64 0, .int .i64 0, .int .i64 0, .int .i64 0, .int .i64 0, .int .i64 0, .int .i64 0, .int .i64 0] 27)
  replace hB := hB.alloc hB.size (.cells #[.int .i64 0, .int .i64 0, .int .i64 0, .int .i64 0, .int .i64 0, .int .i64 0, .int .i64 0, .int .i64 0, .int .i64 0, .int .i64 0] 27)
  generalize (u24.alloc (.cells #[.int .i64 0, .int .i64 0, .int .i64 0, .int .i64 0, .int .i64 0, .int .i64 0, .int .i64 0, .int .i64 0, .int .i64 0, .int .i64 0] 27)) = u25 at *
  generalize u24.heap.size = gu25 at *
  clear hZZ
  have d0 := hBD.cell 40
  have d1 := hBD.cell 41
  have d2 := hBD.cell 42
  have d3 := hBD.cell 43
  have d4 := hBD.cell 44
  have d5 := hBD.cell 45
  have d6 := hBD.cell 46
  have d7 := hBD.cell 47
  have d8 := hBD.cell 48
  have d9 := hBD.cell 49
  simp at d0 d1 d2 d3 d4 d5 d6 d7 d8 d9
  have v0 := hV.cell 0
  have v1 := hV.cell 1
  have v2 := hV.cell 2
  have v3 := hV.cell 3
  have v4 := hV.cell 4
  simp at v0 v1 v2 v3 v4
  have kd0 := cell_regrown d0
  have kd1 := cell_regrown d1
  have kd2 := cell_regrown d2
  have kd3 := cell_regrown d3
  have kd4 := cell_regrown d4
  have kd5 := cell_regrown d5
  have kd6 := cell_regrown d6
  have kd7 := cell_regrown d7
  have kd8 := cell_regrown d8
  have kd9 := cell_regrown d9
  have kv0 := cell_regrown v0
  have kv1 := cell_regrown v1
  have kv2 := cell_regrown v2
  have kv3 := cell_regrown v3
  have kv4 := cell_regrown v4
  have kkA := fun d os => Calls.regrown_of (ka (grow (redrawn u25 d) os))
  refine wp_region_quiet_below (by kernel_rfl) (by kernel_rfl) ?_
  repeat (go_big_quiet_step (with_reducible exact kkA _ _))
  refine wpQuiet_nil ?_
  intro _ hw'
  obtain ⟨⟨dq, osq⟩, hw''⟩ := hw'
  subst hw''
  replace hV := hV.keep (below_regrown u25 dq osq) hV.inside
  replace hBD := hBD.keep (below_regrown u25 dq osq) hBD.inside
  replace hER := hER.keep (below_regrown u25 dq osq) hER.inside
  replace hB := hB.trans ((below_regrown u25 dq osq).mono hB.size)
  generalize grow (redrawn u25 dq) osq = u26 at *
  clear ka kkA d0 d1 d2 d3 d4 d5 d6 d7 d8 d9 kd0 kd1 kd2 kd3 kd4 kd5 kd6 kd7 kd8 kd9 v0 v1 v2 v3 v4 kv0 kv1 kv2 kv3 kv4
  go_wp2_with fail
  have d0 := hBD.cell 40
  have d1 := hBD.cell 41
  have d2 := hBD.cell 42
  have d3 := hBD.cell 43
  have d4 := hBD.cell 44
  have d5 := hBD.cell 45
  have d6 := hBD.cell 46
  have d7 := hBD.cell 47
  have d8 := hBD.cell 48
  have d9 := hBD.cell 49
  simp at d0 d1 d2 d3 d4 d5 d6 d7 d8 d9
  have e0 := hER.cell 4
  simp at e0
  have kd0 := cell_regrown d0
  have kd1 := cell_regrown d1
  have kd2 := cell_regrown d2
  have kd3 := cell_regrown d3
  have kd4 := cell_regrown d4
  have kd5 := cell_regrown d5
  have kd6 := cell_regrown d6
  have kd7 := cell_regrown d7
  have kd8 := cell_regrown d8
  have kd9 := cell_regrown d9
  have ke0 := cell_regrown e0
  have kkC := fun d os => Calls.regrown_of (kc (grow (redrawn u26 d) os))
  have kkL := fun d os => Calls.regrown_of (kl (grow (redrawn u26 d) os))
  refine wp_region_quiet_below (by kernel_rfl) (by kernel_rfl) ?_
  repeat (go_big_quiet_step (first | with_reducible exact kkC _ _ | with_reducible exact kkL _ _))
  refine wpQuiet_nil ?_
  intro _ hw'
  obtain ⟨⟨dq, osq⟩, hw''⟩ := hw'
  subst hw''
  replace hV := hV.keep (below_regrown u26 dq osq) hV.inside
  replace hBD := hBD.keep (below_regrown u26 dq osq) hBD.inside
  replace hER := hER.keep (below_regrown u26 dq osq) hER.inside
  replace hB := hB.trans ((below_regrown u26 dq osq).mono hB.size)
  generalize grow (redrawn u26 dq) osq = u27 at *
  clear kc kl kkC kkL e0 ke0 d0 d1 d2 d3 d4 d5 d6 d7 d8 d9 kd0 kd1 kd2 kd3 kd4 kd5 kd6 kd7 kd8 kd9
  go_wp2_with fail
  have kt : ∀ w, Calls Try.prog 17 #[.agg #[.int .i64 1023, .int .i64 1023, .int .i64 0, .int .i64 0, .int .i64 0, .int .i64 1048576, .int .i64 1048576, .int .i64 1048576, .int .i64 1000, .int .i64 (-1)]] w fun r w' => r = .returned (.tuple #[.agg #[.int .i64 0, .int .i64 0, .int .i64 0, .int .i64 0, .int .i64 0, .int .i64 0, .int .i64 0, .int .i64 0, .int .i64 0, .int .i64 0], .bool false]) ∧ Below w.heap.size w w' := fun w => by have h := Tight_any 1023 1023 0 0 0 1048576 1048576 1048576 1000 (-1) w; rw [show tightB 1023 1023 0 0 0 1048576 1048576 1048576 1000 (-1) = false by decide] at h; exact h
  have ka : ∀ w, Calls Try.prog 15 #[.agg #[.int .i64 1023, .int .i64 1023, .int .i64 0, .int .i64 0, .int .i64 0, .int .i64 1048576, .int .i64 1048576, .int .i64 1048576, .int .i64 1000, .int .i64 (-1)], .agg #[.int .i64 0, .int .i64 1, .int .i64 5, .int .i64 0, .int .i64 60]] w fun r w' => r = .returned (.tuple #[.int .i64 0, .bool false]) ∧ Below w.heap.size w w' := fun w => by have h := Alone_any 1023 1023 0 0 0 1048576 1048576 1048576 1000 (-1) 0 1 5 0 60 w; rw [show aloneV 1023 1023 0 0 0 1048576 1048576 1048576 1000 (-1) 0 1 5 0 60 = 0 by decide, show aloneB 1023 1023 0 0 0 1048576 1048576 1048576 1000 (-1) 0 1 5 0 60 = false by decide] at h; exact h
  have kc : ∀ w, Calls Try.prog 10 #[.agg #[.int .i64 1023, .int .i64 1023, .int .i64 0, .int .i64 0, .int .i64 0, .int .i64 1048576, .int .i64 1048576, .int .i64 1048576, .int .i64 1000, .int .i64 (-1)]] w fun r w' => r = .returned (.int .i64 6) ∧ Below w.heap.size w w' := fun w => by have h := Check_any 1023 1023 0 0 0 1048576 1048576 1048576 1000 (-1) w; rw [show chk 1023 1023 0 0 0 1048576 1048576 1048576 1000 (-1) = 6 by decide] at h; exact h
  have kl : ∀ w, Calls Try.prog 19 #[.agg #[.int .i64 1023, .int .i64 1023, .int .i64 0, .int .i64 0, .int .i64 0, .int .i64 1048576, .int .i64 1048576, .int .i64 1048576, .int .i64 1000, .int .i64 (-1)]] w fun r w' => r = .returned (.int .i64 0) ∧ Below w.heap.size w w' := fun w => by have h := Least_any 1023 1023 0 0 0 1048576 1048576 1048576 1000 (-1) w; rw [show leastV 1023 1023 0 0 0 1048576 1048576 1048576 1000 (-1) = 0 by decide] at h; exact h
  rw [rounds_succ]
  have d0 := hBD.cell 50
  have d1 := hBD.cell 51
  have d2 := hBD.cell 52
  have d3 := hBD.cell 53
  have d4 := hBD.cell 54
  have d5 := hBD.cell 55
  have d6 := hBD.cell 56
  have d7 := hBD.cell 57
  have d8 := hBD.cell 58
  have d9 := hBD.cell 59
  simp at d0 d1 d2 d3 d4 d5 d6 d7 d8 d9
  have hiV := hV.inside
  have hiBD := hBD.inside
  have hiER := hER.inside
  go_wp2_with fail
  clear d0 d1 d2 d3 d4 d5 d6 d7 d8 d9
  clear hiV hiBD hiER
  refine (kt _).mono ?_
  rintro e u28 ⟨rfl, hb1⟩
  replace hV := hV.keep hb1 hV.inside
  replace hBD := hBD.keep hb1 hBD.inside
  replace hER := hER.keep hb1 hER.inside
  replace hB := hB.trans (hb1.mono hB.size)
  clear hb1 kt
  have d0 := hBD.cell 50
  have d1 := hBD.cell 51
  have d2 := hBD.cell 52
  have d3 := hBD.cell 53
  have d4 := hBD.cell 54
  have d5 := hBD.cell 55
  have d6 := hBD.cell 56
  have d7 := hBD.cell 57
  have d8 := hBD.cell 58
  have d9 := hBD.cell 59
  simp at d0 d1 d2 d3 d4 d5 d6 d7 d8 d9
  have hiV := hV.inside
  have hiBD := hBD.inside
  have hiER := hER.inside
  go_wp2_with fail
  clear d0 d1 d2 d3 d4 d5 d6 d7 d8 d9
  clear hiV hiBD hiER
  have hZZ := At.new u28 27 #[.int .i64 0, .int .i64 0, .int .i64 0, .int .i64 0, .int .i64 0, .int .i64 0, .int .i64 0, .int .i64 0, .int .i64 0, .int .i64 0]
  replace hV := hV.alloc (.cells #[.int .i64 0, .int .i64 0, .int .i64 0, .int .i64 0, .int .i64 0, .int .i64 0, .int .i64 0, .int .i64 0, .int .i64 0, .int .i64 0] 27)
  replace hBD := hBD.alloc (.cells #[.int .i64 0, .int .i64 0, .int .i64 0, .int .i64 0, .int .i64 0, .int .i64 0, .int .i64 0, .int .i64 0, .int .i64 0, .int .i64 0] 27)
  replace hER := hER.alloc (.cells #[.int .i64 0, .int .i64 0, .int .i64 0, .int .i64 0, .int .i64 0, .int .i64 0, .int .i64 0, .int .i64 0, .int .i64 0, .int .i64 0] 27)
  replace hB := hB.alloc hB.size (.cells #[.int .i64 0, .int .i64 0, .int .i64 0, .int .i64 0, .int .i64 0, .int .i64 0, .int .i64 0, .int .i64 0, .int .i64 0, .int .i64 0] 27)
  generalize (u28.alloc (.cells #[.int .i64 0, .int .i64 0, .int .i64 0, .int .i64 0, .int .i64 0, .int .i64 0, .int .i64 0, .int .i64 0, .int .i64 0, .int .i64 0] 27)) = u29 at *
  generalize u28.heap.size = gu29 at *
  clear hZZ
  have d0 := hBD.cell 50
  have d1 := hBD.cell 51
  have d2 := hBD.cell 52
  have d3 := hBD.cell 53
  have d4 := hBD.cell 54
  have d5 := hBD.cell 55
  have d6 := hBD.cell 56
  have d7 := hBD.cell 57
  have d8 := hBD.cell 58
  have d9 := hBD.cell 59
  simp at d0 d1 d2 d3 d4 d5 d6 d7 d8 d9
  have v0 := hV.cell 0
  have v1 := hV.cell 1
  have v2 := hV.cell 2
  have v3 := hV.cell 3
  have v4 := hV.cell 4
  simp at v0 v1 v2 v3 v4
  have kd0 := cell_regrown d0
  have kd1 := cell_regrown d1
  have kd2 := cell_regrown d2
  have kd3 := cell_regrown d3
  have kd4 := cell_regrown d4
  have kd5 := cell_regrown d5
  have kd6 := cell_regrown d6
  have kd7 := cell_regrown d7
  have kd8 := cell_regrown d8
  have kd9 := cell_regrown d9
  have kv0 := cell_regrown v0
  have kv1 := cell_regrown v1
  have kv2 := cell_regrown v2
  have kv3 := cell_regrown v3
  have kv4 := cell_regrown v4
  have kkA := fun d os => Calls.regrown_of (ka (grow (redrawn u29 d) os))
  refine wp_region_quiet_below (by kernel_rfl) (by kernel_rfl) ?_
  repeat (go_big_quiet_step (with_reducible exact kkA _ _))
  refine wpQuiet_nil ?_
  intro _ hw'
  obtain ⟨⟨dq, osq⟩, hw''⟩ := hw'
  subst hw''
  replace hV := hV.keep (below_regrown u29 dq osq) hV.inside
  replace hBD := hBD.keep (below_regrown u29 dq osq) hBD.inside
  replace hER := hER.keep (below_regrown u29 dq osq) hER.inside
  replace hB := hB.trans ((below_regrown u29 dq osq).mono hB.size)
  generalize grow (redrawn u29 dq) osq = u30 at *
  clear ka kkA d0 d1 d2 d3 d4 d5 d6 d7 d8 d9 kd0 kd1 kd2 kd3 kd4 kd5 kd6 kd7 kd8 kd9 v0 v1 v2 v3 v4 kv0 kv1 kv2 kv3 kv4
  go_wp2_with fail
  have d0 := hBD.cell 50
  have d1 := hBD.cell 51
  have d2 := hBD.cell 52
  have d3 := hBD.cell 53
  have d4 := hBD.cell 54
  have d5 := hBD.cell 55
  have d6 := hBD.cell 56
  have d7 := hBD.cell 57
  have d8 := hBD.cell 58
  have d9 := hBD.cell 59
  simp at d0 d1 d2 d3 d4 d5 d6 d7 d8 d9
  have e0 := hER.cell 5
  simp at e0
  have kd0 := cell_regrown d0
  have kd1 := cell_regrown d1
  have kd2 := cell_regrown d2
  have kd3 := cell_regrown d3
  have kd4 := cell_regrown d4
  have kd5 := cell_regrown d5
  have kd6 := cell_regrown d6
  have kd7 := cell_regrown d7
  have kd8 := cell_regrown d8
  have kd9 := cell_regrown d9
  have ke0 := cell_regrown e0
  have kkC := fun d os => Calls.regrown_of (kc (grow (redrawn u30 d) os))
  have kkL := fun d os => Calls.regrown_of (kl (grow (redrawn u30 d) os))
  refine wp_region_quiet_below (by kernel_rfl) (by kernel_rfl) ?_
  repeat (go_big_quiet_step (first | with_reducible exact kkC _ _ | with_reducible exact kkL _ _))
  refine wpQuiet_nil ?_
  intro _ hw'
  obtain ⟨⟨dq, osq⟩, hw''⟩ := hw'
  subst hw''
  replace hV := hV.keep (below_regrown u30 dq osq) hV.inside
  replace hBD := hBD.keep (below_regrown u30 dq osq) hBD.inside
  replace hER := hER.keep (below_regrown u30 dq osq) hER.inside
  replace hB := hB.trans ((below_regrown u30 dq osq).mono hB.size)
  generalize grow (redrawn u30 dq) osq = u31 at *
  clear kc kl kkC kkL e0 ke0 d0 d1 d2 d3 d4 d5 d6 d7 d8 d9 kd0 kd1 kd2 kd3 kd4 kd5 kd6 kd7 kd8 kd9
  go_wp2_with fail
  rw [rounds_succ]
  have hiV := hV.inside
  have hiBD := hBD.inside
  have hiER := hER.inside
  go_wp2_with fail
  clear hiV hiBD hiER
  clear hV hBD hER
  have hOD : At (u31.alloc (.cells #[.int .i64 0, .int .i64 0, .int .i64 0, .int .i64 0, .int .i64 0, .int .i64 0, .int .i64 (-1), .int .i64 1, .int .i64 0, .int .i64 0, .int .i64 0, .int .i64 0, .int .i64 100001, .int .i64 0, .int .i64 0, .int .i64 0, .int .i64 0, .int .i64 1, .int .i64 2, .int .i64 1, .int .i64 0, .int .i64 0, .int .i64 1, .int .i64 (-1), .int .i64 0, .int .i64 0, .int .i64 0, .int .i64 1, .int .i64 0, .int .i64 1048577] 29)) u31.heap.size 29 #[.int .i64 0, .int .i64 0, .int .i64 0, .int .i64 0, .int .i64 0, .int .i64 0, .int .i64 (-1), .int .i64 1, .int .i64 0, .int .i64 0, .int .i64 0, .int .i64 0, .int .i64 100001, .int .i64 0, .int .i64 0, .int .i64 0, .int .i64 0, .int .i64 1, .int .i64 2, .int .i64 1, .int .i64 0, .int .i64 0, .int .i64 1, .int .i64 (-1), .int .i64 0, .int .i64 0, .int .i64 0, .int .i64 1, .int .i64 0, .int .i64 1048577] := At.new _ _ _
  replace hB := hB.alloc hB.size (.cells #[.int .i64 0, .int .i64 0, .int .i64 0, .int .i64 0, .int .i64 0, .int .i64 0, .int .i64 (-1), .int .i64 1, .int .i64 0, .int .i64 0, .int .i64 0, .int .i64 0, .int .i64 100001, .int .i64 0, .int .i64 0, .int .i64 0, .int .i64 0, .int .i64 1, .int .i64 2, .int .i64 1, .int .i64 0, .int .i64 0, .int .i64 1, .int .i64 (-1), .int .i64 0, .int .i64 0, .int .i64 0, .int .i64 1, .int .i64 0, .int .i64 1048577] 29)
  generalize (u31.alloc (.cells #[.int .i64 0, .int .i64 0, .int .i64 0, .int .i64 0, .int .i64 0, .int .i64 0, .int .i64 (-1), .int .i64 1, .int .i64 0, .int .i64 0, .int .i64 0, .int .i64 0, .int .i64 100001, .int .i64 0, .int .i64 0, .int .i64 0, .int .i64 0, .int .i64 1, .int .i64 2, .int .i64 1, .int .i64 0, .int .i64 0, .int .i64 1, .int .i64 (-1), .int .i64 0, .int .i64 0, .int .i64 0, .int .i64 1, .int .i64 0, .int .i64 1048577] 29)) = uc at *
  generalize u31.heap.size = gc at *
  refine wp_loop_rounds 7 ?_
  have kt : ∀ w, Calls Try.prog 12 #[.agg #[.int .i64 0, .int .i64 0, .int .i64 0, .int .i64 0, .int .i64 0]] w fun r w' => r = .returned (.int .i64 7) ∧ Below w.heap.size w w' := fun w => by have h := Vehicle_any 0 0 0 0 0 w; rw [show veh 0 0 0 0 0 = 7 by decide] at h; exact h
  rw [rounds_succ]
  have d0 := hOD.cell 0
  have d1 := hOD.cell 1
  have d2 := hOD.cell 2
  have d3 := hOD.cell 3
  have d4 := hOD.cell 4
  simp at d0 d1 d2 d3 d4
  go_wp2_with fail
  clear d0 d1 d2 d3 d4
  refine (kt _).mono ?_
  rintro e u32 ⟨rfl, hb1⟩
  replace hOD := hOD.keep hb1 hOD.inside
  replace hB := hB.trans (hb1.mono hB.size)
  clear hb1 kt
  go_wp2_with fail
  have kt : ∀ w, Calls Try.prog 12 #[.agg #[.int .i64 0, .int .i64 (-1), .int .i64 1, .int .i64 0, .int .i64 0]] w fun r w' => r = .returned (.int .i64 4) ∧ Below w.heap.size w w' := fun w => by have h := Vehicle_any 0 (-1) 1 0 0 w; rw [show veh 0 (-1) 1 0 0 = 4 by decide] at h; exact h
  rw [rounds_succ]
  have d0 := hOD.cell 5
  have d1 := hOD.cell 6
  have d2 := hOD.cell 7
  have d3 := hOD.cell 8
  have d4 := hOD.cell 9
  simp at d0 d1 d2 d3 d4
  go_wp2_with fail
  clear d0 d1 d2 d3 d4
  refine (kt _).mono ?_
  rintro e u33 ⟨rfl, hb1⟩
  replace hOD := hOD.keep hb1 hOD.inside
  replace hB := hB.trans (hb1.mono hB.size)
  clear hb1 kt
  go_wp2_with fail
  have kt : ∀ w, Calls Try.prog 12 #[.agg #[.int .i64 0, .int .i64 0, .int .i64 100001, .int .i64 0, .int .i64 0]] w fun r w' => r = .returned (.int .i64 7) ∧ Below w.heap.size w w' := fun w => by have h := Vehicle_any 0 0 100001 0 0 w; rw [show veh 0 0 100001 0 0 = 7 by decide] at h; exact h
  rw [rounds_succ]
  have d0 := hOD.cell 10
  have d1 := hOD.cell 11
  have d2 := hOD.cell 12
  have d3 := hOD.cell 13
  have d4 := hOD.cell 14
  simp at d0 d1 d2 d3 d4
  go_wp2_with fail
  clear d0 d1 d2 d3 d4
  refine (kt _).mono ?_
  rintro e u34 ⟨rfl, hb1⟩
  replace hOD := hOD.keep hb1 hOD.inside
  replace hB := hB.trans (hb1.mono hB.size)
  clear hb1 kt
  go_wp2_with fail
  have kt : ∀ w, Calls Try.prog 12 #[.agg #[.int .i64 0, .int .i64 0, .int .i64 1, .int .i64 2, .int .i64 1]] w fun r w' => r = .returned (.int .i64 7) ∧ Below w.heap.size w w' := fun w => by have h := Vehicle_any 0 0 1 2 1 w; rw [show veh 0 0 1 2 1 = 7 by decide] at h; exact h
  rw [rounds_succ]
  have d0 := hOD.cell 15
  have d1 := hOD.cell 16
  have d2 := hOD.cell 17
  have d3 := hOD.cell 18
  have d4 := hOD.cell 19
  simp at d0 d1 d2 d3 d4
  go_wp2_with fail
  clear d0 d1 d2 d3 d4
  refine (kt _).mono ?_
  rintro e u35 ⟨rfl, hb1⟩
  replace hOD := hOD.keep hb1 hOD.inside
  replace hB := hB.trans (hb1.mono hB.size)
  clear hb1 kt
  go_wp2_with fail
  have kt : ∀ w, Calls Try.prog 12 #[.agg #[.int .i64 0, .int .i64 0, .int .i64 1, .int .i64 (-1), .int .i64 0]] w fun r w' => r = .returned (.int .i64 7) ∧ Below w.heap.size w w' := fun w => by have h := Vehicle_any 0 0 1 (-1) 0 w; rw [show veh 0 0 1 (-1) 0 = 7 by decide] at h; exact h
  rw [rounds_succ]
  have d0 := hOD.cell 20
  have d1 := hOD.cell 21
  have d2 := hOD.cell 22
  have d3 := hOD.cell 23
  have d4 := hOD.cell 24
  simp at d0 d1 d2 d3 d4
  go_wp2_with fail
  clear d0 d1 d2 d3 d4
  refine (kt _).mono ?_
  rintro e u36 ⟨rfl, hb1⟩
  replace hOD := hOD.keep hb1 hOD.inside
  replace hB := hB.trans (hb1.mono hB.size)
  clear hb1 kt
  go_wp2_with fail
  have kt : ∀ w, Calls Try.prog 12 #[.agg #[.int .i64 0, .int .i64 0, .int .i64 1, .int .i64 0, .int .i64 1048577]] w fun r w' => r = .returned (.int .i64 7) ∧ Below w.heap.size w w' := fun w => by have h := Vehicle_any 0 0 1 0 1048577 w; rw [show veh 0 0 1 0 1048577 = 7 by decide] at h; exact h
  rw [rounds_succ]
  have d0 := hOD.cell 25
  have d1 := hOD.cell 26
  have d2 := hOD.cell 27
  have d3 := hOD.cell 28
  have d4 := hOD.cell 29
  simp at d0 d1 d2 d3 d4
  go_wp2_with fail
  clear d0 d1 d2 d3 d4
  refine (kt _).mono ?_
  rintro e u37 ⟨rfl, hb1⟩
  replace hOD := hOD.keep hb1 hOD.inside
  replace hB := hB.trans (hb1.mono hB.size)
  clear hb1 kt
  go_wp2_with fail
  have kt : ∀ w, Calls Try.prog 17 #[.agg #[.int .i64 0, .int .i64 0, .int .i64 0, .int .i64 0, .int .i64 5, .int .i64 5, .int .i64 0, .int .i64 4, .int .i64 1, .int .i64 0]] w fun r w' => r = .returned (.tuple #[.agg #[.int .i64 0, .int .i64 0, .int .i64 0, .int .i64 0, .int .i64 0, .int .i64 0, .int .i64 0, .int .i64 0, .int .i64 0, .int .i64 0], .bool false]) ∧ Below w.heap.size w w' := fun w => by have h := Tight_any 0 0 0 0 5 5 0 4 1 0 w; rw [show tightB 0 0 0 0 5 5 0 4 1 0 = false by decide] at h; exact h
  rw [rounds_succ]
  go_wp2_with fail
  clear hOD
  refine (kt _).mono ?_
  rintro e u38 ⟨rfl, hb1⟩
  replace hB := hB.trans (hb1.mono hB.size)
  clear hb1 kt
  go_wp2_with fail
  refine (works_any _).mono ?_
  rintro e uy ⟨rfl, hb1⟩
  replace hB := (hB.alloc hB.size _).trans (hb1.mono (by have hs := hB.size; simp; omega))
  go_wp2
  go_ret
  exact ⟨Order.ret_bool (by simp), hB⟩

set_option maxRecDepth 100000 in
theorem lifted (os : Os) (started : os.Started) (H : Type) (enc : TypeId × Value → H) :
    ReturnsInHanded {} Try.checked os 7 .any (Rows.orderKnownSpec.pre6 enc Try.prog Try.f7 Rows.orderKnownRow.domain false) (Rows.orderKnownSpec.post enc Try.prog Try.f7 false true false false) := by
  refine returnsInHanded_of_change (C := Try.checked) own started (by kernel_rfl) Try.func7
    (ChangeSpec.witness6 (enc := enc) (C := Try.checked) false ⟨#[], #[], []⟩ 8 (by kernel_rfl) (by kernel_rfl) (by kernel_rfl) (by kernel_rfl)) ?_
  intro W base args ds gs before hval0 hW hcnd _
  have hW' := hW
  obtain ⟨p, q, hA0, hV, rfl, hfz, hnd⟩ := hW
  have hA : DataW.TrodAll enc Try.prog W 0 (fun _ => true) true Try.f7.params.toList args.toList ds p := hA0
  rw [Try.params7] at hA
  obtain ⟨rfl, rfl, rfl⟩ := trodAll_none hA
  obtain ⟨rfl, rfl⟩ := trodVars_none hV
  exact (walk W).mono fun e W' ⟨he, hb⟩ => ⟨_, he, Close.law_post laidOut (by kernel_rfl) rfl (by kernel_rfl) Try.underlying4 hW' rfl hb⟩

theorem over : Rows.orderKnownRow.holds Try.pinned (OpenSpec.ofChange Rows.orderKnownSpec) :=
  OpenClaim.holds_of_wide 7 Try.f7 rfl rfl rfl rfl rfl rfl rfl ⟨rfl, rfl, rfl, rfl, rfl⟩ rfl rfl rfl rfl rfl (by kernel_rfl) Try.func7 (by kernel_rfl)
    (of_decide_eq_true (by kernel_rfl)) (by unfold Func.isWrapper; first | (rw [if_pos (by decide +kernel)]; kernel_rfl) | (rw [if_neg (by decide +kernel)]; exact ⟨rfl, rfl⟩))
    (fun os started H enc _ => lifted os started H enc)

theorem proved : Rows.OrderKnownSaid := over
#print axioms proved

end Go.Proofs.Ytcdgfjfomiokmaa.orderKnown
