import Derived.Test.YtpefdmkfmcjfnaaPkMsTell
import Derived.Test.YtpefdmkfmcjfnaaPkPlaceMay

namespace Go.Proofs.Ytpefdmkfmcjfnaa.Order
open Go.RowKit Go.Sort Go.Proofs.Ytpefdmkfmcjfnaa.Mem Go.Proofs.Ytpefdmkfmcjfnaa.Place Go.Proofs.Ytpefdmkfmcjfnaa.Window Go.Proofs.Ytpefdmkfmcjfnaa.Tail
set_option linter.unusedVariables false
theorem ret_int {k : IntKind} {a b : Int} (h : a = b) : Ending.returned (.int k a) = .returned (.int k b) := by rw [h]
theorem ret_bool {a b : Bool} (h : a = b) : Ending.returned (.bool a) = .returned (.bool b) := by rw [h]
theorem btw_no1 {n a b : Int} (h : ¬ n ≥ a) : false = btwB n a b := by simp [btwB]; omega
theorem btw_yes1 {n a b : Int} (h : n ≥ a) : decide (n ≤ b) = btwB n a b := by simp [btwB]; omega
theorem between_any (n a b : Int) (w : World) :
 Calls Try.prog 67 #[.int .i64 n, .int .i64 a, .int .i64 b] w fun r w' => r = .returned (.bool (btwB n a b)) ∧ w = w' := by
 by_cases h1 : n ≥ a
 · have hm := Lib.hid (btw_yes1 (b := b) h1)
   go_enter Try.func67, Try.ntmps67
   go_wp2
   go_ret
   exact ⟨ret_bool hm.out, rfl⟩
 · have hm := Lib.hid (btw_no1 (b := b) h1)
   go_enter Try.func67, Try.ntmps67
   go_wp2
   go_ret
   exact ⟨ret_bool hm.out, rfl⟩
theorem firstFault_any (b0 b1 b2 : Bool) (e0 e1 e2 : Int) (g : Nat) (w : World) (h : At w g 133 #[.bool b0, .int .i64 e0, .bool b1, .int .i64 e1, .bool b2, .int .i64 e2]) :
 Calls Try.prog 64 #[.slice (some ⟨g, 0, none⟩) 3 3] w fun r w' => r = .returned (.int .i64 (ff b0 b1 b2 e0 e1 e2)) ∧ Below w.heap.size w w' := by
 have hg := h.inside
 have c0 := h.cell 0
 have c1 := h.cell 1
 have c2 := h.cell 2
 have c3 := h.cell 3
 have c4 := h.cell 4
 have c5 := h.cell 5
 simp at c0 c1 c2 c3 c4 c5
 cases b0
 · go_enter Try.func64, Try.ntmps64
   go_wp2_with fail
   refine wp_loop_rounds 4 ?_
   rw [rounds_succ]
   go_wp2
   go_ret
   exact ⟨ret_int rfl, by repeat (first | exact Below.refl _ _ | refine Below.alloc ?_ (by simp <;> omega) _ | refine Below.setCell ?_ (by simp <;> omega) _)⟩
 cases b1
 · go_enter Try.func64, Try.ntmps64
   go_wp2_with fail
   refine wp_loop_rounds 4 ?_
   rw [rounds_succ]
   go_wp2
   rw [rounds_succ]
   go_wp2
   go_ret
   exact ⟨ret_int rfl, by repeat (first | exact Below.refl _ _ | refine Below.alloc ?_ (by simp <;> omega) _ | refine Below.setCell ?_ (by simp <;> omega) _)⟩
 cases b2
 · go_enter Try.func64, Try.ntmps64
   go_wp2_with fail
   refine wp_loop_rounds 4 ?_
   rw [rounds_succ]
   go_wp2
   rw [rounds_succ]
   go_wp2
   rw [rounds_succ]
   go_wp2
   go_ret
   exact ⟨ret_int rfl, by repeat (first | exact Below.refl _ _ | refine Below.alloc ?_ (by simp <;> omega) _ | refine Below.setCell ?_ (by simp <;> omega) _)⟩
 · go_enter Try.func64, Try.ntmps64
   go_wp2_with fail
   refine wp_loop_rounds 4 ?_
   rw [rounds_succ]
   go_wp2
   rw [rounds_succ]
   go_wp2
   rw [rounds_succ]
   go_wp2
   rw [rounds_succ]
   go_wp2
   go_ret
   exact ⟨ret_int rfl, by repeat (first | exact Below.refl _ _ | refine Below.alloc ?_ (by simp <;> omega) _ | refine Below.setCell ?_ (by simp <;> omega) _)⟩
theorem Between_any (n a b : Int) (w : World) :
 Calls Try.prog 67 #[.int .i64 n, .int .i64 a, .int .i64 b] w fun r w' => r = .returned (.bool (btwB n a b)) ∧ Below w.heap.size w w' :=
 (between_any n a b w).mono fun r w' ⟨h1, h2⟩ => ⟨h1, by subst h2; exact Below.refl _ _⟩
set_option maxHeartbeats 4000000 in
theorem Check_any (fx fy tx ty pe pl de dl ld sv : Int) (w : World) :
 Calls Try.prog 54 #[.agg #[.int .i64 fx, .int .i64 fy, .int .i64 tx, .int .i64 ty, .int .i64 pe, .int .i64 pl, .int .i64 de, .int .i64 dl, .int .i64 ld, .int .i64 sv]] w fun r w' => r = .returned (.int .i64 (chk fx fy tx ty pe pl de dl ld sv)) ∧ Below w.heap.size w w' := by
 have hP0 : At (w.alloc (.cells #[.int .i64 fx, .int .i64 fy, .int .i64 tx, .int .i64 ty, .int .i64 pe, .int .i64 pl, .int .i64 de, .int .i64 dl, .int .i64 ld, .int .i64 sv] 35)) w.heap.size 35 #[.int .i64 fx, .int .i64 fy, .int .i64 tx, .int .i64 ty, .int .i64 pe, .int .i64 pl, .int .i64 de, .int .i64 dl, .int .i64 ld, .int .i64 sv] := At.new w _ _
 have hb0 : Below w.heap.size w (w.alloc (.cells #[.int .i64 fx, .int .i64 fy, .int .i64 tx, .int .i64 ty, .int .i64 pe, .int .i64 pl, .int .i64 de, .int .i64 dl, .int .i64 ld, .int .i64 sv] 35)) := (Below.refl _ _).alloc (Nat.le_refl _) _
 obtain ⟨b1, h1⟩ : ∃ b, mayB (fx, fy) = b := ⟨_, rfl⟩
 obtain ⟨b2, h2⟩ : ∃ b, okB pe pl = b := ⟨_, rfl⟩
 obtain ⟨b3, h3⟩ : ∃ b, btwB ld 1 1000 = b := ⟨_, rfl⟩
 have hE : chk fx fy tx ty pe pl de dl ld sv = ff (b1 && mayB (tx, ty)) (b2 && okB de dl) (b3 && btwB sv 0 1000) 4 5 6 := by unfold chk; rw [h1, h2, h3]
 rw [hE]
 clear hE
 obtain ⟨b4, h4⟩ : ∃ b, mayB (tx, ty) = b := ⟨_, rfl⟩
 obtain ⟨b5, h5⟩ : ∃ b, okB de dl = b := ⟨_, rfl⟩
 obtain ⟨b6, h6⟩ : ∃ b, btwB sv 0 1000 = b := ⟨_, rfl⟩
 rw [h4, h5, h6]
 have cF : ∀ w, Calls Try.prog 65 #[.agg #[.int .i64 fx, .int .i64 fy]] w fun e w' => e = .returned (.bool b1) ∧ Below w.heap.size w w' := fun w => by rw [← h1]; exact Place.May_any _ _ w
 have cT : ∀ w, Calls Try.prog 65 #[.agg #[.int .i64 tx, .int .i64 ty]] w fun e w' => e = .returned (.bool b4) ∧ Below w.heap.size w w' := fun w => by rw [← h4]; exact Place.May_any _ _ w
 have cP : ∀ w, Calls Try.prog 66 #[.agg #[.int .i64 pe, .int .i64 pl]] w fun e w' => e = .returned (.bool b2) ∧ Below w.heap.size w w' := fun w => by rw [← h2]; exact Window.May_any _ _ w
 have cD : ∀ w, Calls Try.prog 66 #[.agg #[.int .i64 de, .int .i64 dl]] w fun e w' => e = .returned (.bool b5) ∧ Below w.heap.size w w' := fun w => by rw [← h5]; exact Window.May_any _ _ w
 have cL : ∀ w, Calls Try.prog 67 #[.int .i64 ld, .int .i64 1, .int .i64 1000] w fun e w' => e = .returned (.bool b3) ∧ Below w.heap.size w w' := fun w => by rw [← h3]; exact Between_any _ _ _ w
 have cS : ∀ w, Calls Try.prog 67 #[.int .i64 sv, .int .i64 0, .int .i64 1000] w fun e w' => e = .returned (.bool b6) ∧ Below w.heap.size w w' := fun w => by rw [← h6]; exact Between_any _ _ _ w
 clear h1 h2 h3 h4 h5 h6
 go_enter Try.func54, Try.ntmps54
 go_wp2_with fail
 generalize (w.alloc (.cells #[.int .i64 fx, .int .i64 fy, .int .i64 tx, .int .i64 ty, .int .i64 pe, .int .i64 pl, .int .i64 de, .int .i64 dl, .int .i64 ld, .int .i64 sv] 35)) = w0 at *
 have c0 := hP0.cell 0
 have c1 := hP0.cell 1
 have c2 := hP0.cell 2
 have c3 := hP0.cell 3
 have c4 := hP0.cell 4
 have c5 := hP0.cell 5
 have c6 := hP0.cell 6
 have c7 := hP0.cell 7
 have c8 := hP0.cell 8
 have c9 := hP0.cell 9
 simp at c0 c1 c2 c3 c4 c5 c6 c7 c8 c9
 have kc0 := cell_regrown c0
 have kc1 := cell_regrown c1
 have kc2 := cell_regrown c2
 have kc3 := cell_regrown c3
 have kc4 := cell_regrown c4
 have kc5 := cell_regrown c5
 have kc6 := cell_regrown c6
 have kc7 := cell_regrown c7
 have kc8 := cell_regrown c8
 have kc9 := cell_regrown c9
 have kF := fun d os => Calls.regrown_of (cF (grow (redrawn w0 d) os))
 have kT := fun d os => Calls.regrown_of (cT (grow (redrawn w0 d) os))
 have kP := fun d os => Calls.regrown_of (cP (grow (redrawn w0 d) os))
 have kD := fun d os => Calls.regrown_of (cD (grow (redrawn w0 d) os))
 have kL := fun d os => Calls.regrown_of (cL (grow (redrawn w0 d) os))
 have kS := fun d os => Calls.regrown_of (cS (grow (redrawn w0 d) os))
 clear cF cT cP cD cL cS
 refine wp_region_below_tail 27 (by kernel_rfl) (by kernel_rfl) (by kernel_rfl) ?_
 simp only [List.take_succ_cons, List.take_zero, List.drop_succ_cons, List.drop_zero]
 cases b1 <;> cases b2 <;> cases b3
 all_goals
  repeat (go_big_quiet_step (first | with_reducible exact kF _ _ | with_reducible exact kT _ _ | with_reducible exact kP _ _ | with_reducible exact kD _ _ | with_reducible exact kL _ _ | with_reducible exact kS _ _))
  refine wpQuiet_nil ?_
  intro _ hw'
  obtain ⟨⟨dq, osq⟩, hw''⟩ := hw'
  subst hw''
  have hB := hb0.trans ((below_regrown w0 dq osq).mono hb0.size)
  generalize grow (redrawn w0 dq) osq = w2 at *
  clear kF kT kP kD kL kS kc0 kc1 kc2 kc3 kc4 kc5 kc6 kc7 kc8 kc9 c0 c1 c2 c3 c4 c5 c6 c7 c8 c9 hP0 hb0
  go_wp2_with fail
  refine (firstFault_any _ _ _ 4 5 6 _ _ (At.new _ _ _)).mono ?_
  rintro e w3 ⟨rfl, hb3⟩
  have hE := (hB.alloc hB.size _).trans (hb3.mono (by simp; have := hB.size; omega))
  clear hb3 hB
  go_wp2
  go_ret
  exact ⟨ret_int (by simp), hE⟩
end Go.Proofs.Ytpefdmkfmcjfnaa.Order
