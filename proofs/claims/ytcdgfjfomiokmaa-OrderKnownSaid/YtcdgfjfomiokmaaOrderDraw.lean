/-
  Contracts of what the statements of layer 4 draw: numbers brought between two, places, windows.
-/
import Derived.Test.YtcdgfjfomiokmaaOrderTightF
import Derived.Test.YtcdgfjfomiokmaaFloat
namespace Go.Proofs.Ytcdgfjfomiokmaa.Order
open Go.RowKit Go.Sort Go.Proofs.Ytcdgfjfomiokmaa.Mem Go.Proofs.Ytcdgfjfomiokmaa.Place Go.Proofs.Ytcdgfjfomiokmaa.Window Go.Proofs.Ytcdgfjfomiokmaa.Tail Go.Proofs.Ytcdgfjfomiokmaa.Float
set_option linter.unusedVariables false

theorem u64_wrap (x : Int) : IntKind.u64.wrap x = x % 18446744073709551616 := by simp [IntKind.wrap, IntKind.bits, IntKind.signed]

theorem lbtw_0_1023 (n : Int) (w : World) : Calls Try.prog 23 #[.int .i64 n, .int .i64 0, .int .i64 1023] w fun r w' => r = .returned (.int .i64 (btwV n 0 1023)) ∧ Below w.heap.size w w' := by
  have hu := u64_wrap n
  have hb := btwV_bd n 0 1023 (by omega)
  go_enter Try.func23, Try.ntmps23
  go_wp2
  go_ret
  refine ⟨ret_int ?_, Below.refl _ _⟩
  unfold btwV; omega

theorem lbtw_1_1000 (n : Int) (w : World) : Calls Try.prog 23 #[.int .i64 n, .int .i64 1, .int .i64 1000] w fun r w' => r = .returned (.int .i64 (btwV n 1 1000)) ∧ Below w.heap.size w w' := by
  have hu := u64_wrap n
  have hb := btwV_bd n 1 1000 (by omega)
  go_enter Try.func23, Try.ntmps23
  go_wp2
  go_ret
  refine ⟨ret_int ?_, Below.refl _ _⟩
  unfold btwV; omega

theorem lbtw_0_1000 (n : Int) (w : World) : Calls Try.prog 23 #[.int .i64 n, .int .i64 0, .int .i64 1000] w fun r w' => r = .returned (.int .i64 (btwV n 0 1000)) ∧ Below w.heap.size w w' := by
  have hu := u64_wrap n
  have hb := btwV_bd n 0 1000 (by omega)
  go_enter Try.func23, Try.ntmps23
  go_wp2
  go_ret
  refine ⟨ret_int ?_, Below.refl _ _⟩
  unfold btwV; omega

theorem lbtw_1_100000 (n : Int) (w : World) : Calls Try.prog 23 #[.int .i64 n, .int .i64 1, .int .i64 100000] w fun r w' => r = .returned (.int .i64 (btwV n 1 100000)) ∧ Below w.heap.size w w' := by
  have hu := u64_wrap n
  have hb := btwV_bd n 1 100000 (by omega)
  go_enter Try.func23, Try.ntmps23
  go_wp2
  go_ret
  refine ⟨ret_int ?_, Below.refl _ _⟩
  unfold btwV; omega

theorem lbtw_0_1048576 (n : Int) (w : World) : Calls Try.prog 23 #[.int .i64 n, .int .i64 0, .int .i64 1048576] w fun r w' => r = .returned (.int .i64 (btwV n 0 1048576)) ∧ Below w.heap.size w w' := by
  have hu := u64_wrap n
  have hb := btwV_bd n 0 1048576 (by omega)
  go_enter Try.func23, Try.ntmps23
  go_wp2
  go_ret
  refine ⟨ret_int ?_, Below.refl _ _⟩
  unfold btwV; omega

theorem lbtw_0_300 (n : Int) (w : World) : Calls Try.prog 23 #[.int .i64 n, .int .i64 0, .int .i64 300] w fun r w' => r = .returned (.int .i64 (btwV n 0 300)) ∧ Below w.heap.size w w' := by
  have hu := u64_wrap n
  have hb := btwV_bd n 0 300 (by omega)
  go_enter Try.func23, Try.ntmps23
  go_wp2
  go_ret
  refine ⟨ret_int ?_, Below.refl _ _⟩
  unfold btwV; omega

theorem lplace_any (x y : Int) (w : World) : Calls Try.prog 22 #[.agg #[.int .i64 x, .int .i64 y]] w fun r w' => r = .returned (.agg #[.int .i64 (btwV x 0 1023), .int .i64 (btwV y 0 1023)]) ∧ Below w.heap.size w w' := by
  have hP : At ((w.alloc (.cells #[.int .i64 x, .int .i64 y] 23)).alloc (.cells #[.int .i64 0, .int .i64 0] 23)) w.heap.size 23 #[.int .i64 x, .int .i64 y] := (At.new w _ _).alloc _
  have hS : At ((w.alloc (.cells #[.int .i64 x, .int .i64 y] 23)).alloc (.cells #[.int .i64 0, .int .i64 0] 23)) (w.heap.size + 1) 23 #[.int .i64 0, .int .i64 0] := At.new_ _ _ _ (by simp)
  have hB : Below w.heap.size w ((w.alloc (.cells #[.int .i64 x, .int .i64 y] 23)).alloc (.cells #[.int .i64 0, .int .i64 0] 23)) := ((Below.refl _ _).alloc (Nat.le_refl _) _).alloc (by simp) _
  go_enter Try.func22, Try.ntmps22
  go_wp2_with fail
  generalize ((w.alloc (.cells #[.int .i64 x, .int .i64 y] 23)).alloc (.cells #[.int .i64 0, .int .i64 0] 23)) = w1 at *
  have c0 := hP.cell 0
  have c1 := hP.cell 1
  simp at c0 c1
  have kc0 := cell_regrown c0
  have kc1 := cell_regrown c1
  have kB := fun n d os => Calls.regrown_of (lbtw_0_1023 n (grow (redrawn w1 d) os))
  refine wp_region_below_tail 7 (by kernel_rfl) (by kernel_rfl) (by kernel_rfl) ?_
  simp only [List.take_succ_cons, List.take_zero, List.drop_succ_cons, List.drop_zero]
  repeat (go_big_quiet_step (with_reducible exact kB _ _ _))
  refine wpQuiet_nil ?_
  intro _ hw'
  obtain ⟨⟨dq, osq⟩, hw''⟩ := hw'
  subst hw''
  replace hB := hB.trans ((below_regrown w1 dq osq).mono hB.size)
  replace hS := hS.keep (below_regrown w1 dq osq) hS.inside
  generalize grow (redrawn w1 dq) osq = w2 at *
  clear kB kc0 kc1 c0 c1
  have s0 := hS.cell 0
  have s1 := hS.cell 1
  simp at s0 s1
  have hf := hS.free
  go_wp2
  refine bodyPost_ret (res_place rfl rfl (x := .int .i64 (btwV x 0 1023)) (y := .int .i64 (btwV y 0 1023)) (by go_simp) (by go_simp)) rfl ?_
  exact ⟨rfl, by repeat (first | refine Below.setCell ?_ (by simp <;> omega) _ | exact hB)⟩

theorem res_win {fn : Func} {p : Tmp} (h : fn.results = #[.cell p 25]) {tmps : Array Value} {w : World} {g : Nat} {x y : Value} (hp : tmps.getD p undef = .pointer (some ⟨g, 0, none⟩))
    (c0 : w.cell? ⟨g, 0, none⟩ = some x) (c1 : w.cell? ⟨g, 1, none⟩ = some y) : (results fn tmps).run Try.prog w = .ok (.agg #[x, y]) w := by
  have hp' : tmps[p]?.getD undef = .pointer (some ⟨g, 0, none⟩) := by simpa using hp
  simp only [results, h]
  go_simp

theorem lwin_1048576 (x y : Int) (w : World) : Calls Try.prog 24 #[.agg #[.int .i64 x, .int .i64 y], .int .i64 1048576] w fun r w' => r = .returned (.agg #[.int .i64 (min (btwV x 0 1048576) (btwV y 0 1048576)), .int .i64 (max (btwV x 0 1048576) (btwV y 0 1048576))]) ∧ Below w.heap.size w w' := by
  have hP : At ((w.alloc (.cells #[.int .i64 x, .int .i64 y] 25)).alloc (.cells #[.int .i64 0, .int .i64 0] 25)) w.heap.size 25 #[.int .i64 x, .int .i64 y] := (At.new w _ _).alloc _
  have hS : At ((w.alloc (.cells #[.int .i64 x, .int .i64 y] 25)).alloc (.cells #[.int .i64 0, .int .i64 0] 25)) (w.heap.size + 1) 25 #[.int .i64 0, .int .i64 0] := At.new_ _ _ _ (by simp)
  have hB : Below w.heap.size w ((w.alloc (.cells #[.int .i64 x, .int .i64 y] 25)).alloc (.cells #[.int .i64 0, .int .i64 0] 25)) := ((Below.refl _ _).alloc (Nat.le_refl _) _).alloc (by simp) _
  go_enter Try.func24, Try.ntmps24
  go_wp2_with fail
  generalize ((w.alloc (.cells #[.int .i64 x, .int .i64 y] 25)).alloc (.cells #[.int .i64 0, .int .i64 0] 25)) = w1 at *
  have c0 := hP.cell 0
  have c1 := hP.cell 1
  simp at c0 c1
  have kc0 := cell_regrown c0
  have kc1 := cell_regrown c1
  have kB := fun n d os => Calls.regrown_of (lbtw_0_1048576 n (grow (redrawn w1 d) os))
  refine wp_region_quiet_below (by kernel_rfl) (by kernel_rfl) ?_
  repeat (go_big_quiet_step (with_reducible exact kB _ _ _))
  refine wpQuiet_nil ?_
  intro _ hw'
  obtain ⟨⟨dq, osq⟩, hw''⟩ := hw'
  subst hw''
  replace hB := hB.trans ((below_regrown w1 dq osq).mono hB.size)
  replace hS := hS.keep (below_regrown w1 dq osq) hS.inside
  generalize grow (redrawn w1 dq) osq = w2 at *
  clear kB kc0 kc1 c0 c1
  have s0 := hS.cell 0
  have s1 := hS.cell 1
  simp at s0 s1
  have hf := hS.free
  go_wp2
  refine bodyPost_ret (res_win rfl rfl (x := .int .i64 (min (btwV x 0 1048576) (btwV y 0 1048576))) (y := .int .i64 (max (btwV x 0 1048576) (btwV y 0 1048576))) (by go_simp) (by go_simp)) rfl ?_
  exact ⟨rfl, by repeat (first | refine Below.setCell ?_ (by simp <;> omega) _ | exact hB)⟩

theorem lwin_300 (x y : Int) (w : World) : Calls Try.prog 24 #[.agg #[.int .i64 x, .int .i64 y], .int .i64 300] w fun r w' => r = .returned (.agg #[.int .i64 (min (btwV x 0 300) (btwV y 0 300)), .int .i64 (max (btwV x 0 300) (btwV y 0 300))]) ∧ Below w.heap.size w w' := by
  have hP : At ((w.alloc (.cells #[.int .i64 x, .int .i64 y] 25)).alloc (.cells #[.int .i64 0, .int .i64 0] 25)) w.heap.size 25 #[.int .i64 x, .int .i64 y] := (At.new w _ _).alloc _
  have hS : At ((w.alloc (.cells #[.int .i64 x, .int .i64 y] 25)).alloc (.cells #[.int .i64 0, .int .i64 0] 25)) (w.heap.size + 1) 25 #[.int .i64 0, .int .i64 0] := At.new_ _ _ _ (by simp)
  have hB : Below w.heap.size w ((w.alloc (.cells #[.int .i64 x, .int .i64 y] 25)).alloc (.cells #[.int .i64 0, .int .i64 0] 25)) := ((Below.refl _ _).alloc (Nat.le_refl _) _).alloc (by simp) _
  go_enter Try.func24, Try.ntmps24
  go_wp2_with fail
  generalize ((w.alloc (.cells #[.int .i64 x, .int .i64 y] 25)).alloc (.cells #[.int .i64 0, .int .i64 0] 25)) = w1 at *
  have c0 := hP.cell 0
  have c1 := hP.cell 1
  simp at c0 c1
  have kc0 := cell_regrown c0
  have kc1 := cell_regrown c1
  have kB := fun n d os => Calls.regrown_of (lbtw_0_300 n (grow (redrawn w1 d) os))
  refine wp_region_quiet_below (by kernel_rfl) (by kernel_rfl) ?_
  repeat (go_big_quiet_step (with_reducible exact kB _ _ _))
  refine wpQuiet_nil ?_
  intro _ hw'
  obtain ⟨⟨dq, osq⟩, hw''⟩ := hw'
  subst hw''
  replace hB := hB.trans ((below_regrown w1 dq osq).mono hB.size)
  replace hS := hS.keep (below_regrown w1 dq osq) hS.inside
  generalize grow (redrawn w1 dq) osq = w2 at *
  clear kB kc0 kc1 c0 c1
  have s0 := hS.cell 0
  have s1 := hS.cell 1
  simp at s0 s1
  have hf := hS.free
  go_wp2
  refine bodyPost_ret (res_win rfl rfl (x := .int .i64 (min (btwV x 0 300) (btwV y 0 300))) (y := .int .i64 (max (btwV x 0 300) (btwV y 0 300))) (by go_simp) (by go_simp)) rfl ?_
  exact ⟨rfl, by repeat (first | refine Below.setCell ?_ (by simp <;> omega) _ | exact hB)⟩

end Go.Proofs.Ytcdgfjfomiokmaa.Order
