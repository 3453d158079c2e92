import Derived.Test.YthjdacbgcpldjaaDoorPkPlaceMath
import Derived.Test.YthjdacbgcpldjaaDoorPkPlaceMay
import Derived.Test.YthjdacbgcpldjaaDoorPkWindowMay
import Derived.Test.YthjdacbgcpldjaaDoorPkUp
import Derived.Deep.RegionHeld3
import Derived.BigRegion
import Derived.Test.YthjdacbgcpldjaaDoorPkPlaceDist

/-
  Contracts of package order's checks, and of those that answer the same by definition.
-/
namespace Go.Proofs.YthjdacbgcpldjaaDoor.Order
open Go.RowKit Go.Sort Go.Proofs.YthjdacbgcpldjaaDoor.Mem Go.Proofs.YthjdacbgcpldjaaDoor.Place Go.Proofs.YthjdacbgcpldjaaDoor.Window Go.Proofs.YthjdacbgcpldjaaDoor.Tail
set_option linter.unusedVariables false

theorem ret_int {k : IntKind} {a b : Int} (h : a = b) : Ending.returned (.int k a) = .returned (.int k b) := by rw [h]
theorem ret_bool {a b : Bool} (h : a = b) : Ending.returned (.bool a) = .returned (.bool b) := by rw [h]

theorem btw_no1 {n a b : Int} (h : ¬ n ≥ a) : false = btwB n a b := by simp [btwB]; omega
theorem btw_yes1 {n a b : Int} (h : n ≥ a) : decide (n ≤ b) = btwB n a b := by simp [btwB]; omega

theorem between_any (n a b : Int) (w : World) :
    Calls Tryd.prog 81 #[.int .i64 n, .int .i64 a, .int .i64 b] w fun r w' => r = .returned (.bool (btwB n a b)) ∧ w = w' := by
  by_cases h1 : n ≥ a
  · have hm := Lib.hid (btw_yes1 (b := b) h1)
    go_enter Tryd.func81, Tryd.ntmps81
    go_wp2
    go_ret
    exact ⟨ret_bool hm.out, rfl⟩
  · have hm := Lib.hid (btw_no1 (b := b) h1)
    go_enter Tryd.func81, Tryd.ntmps81
    go_wp2
    go_ret
    exact ⟨ret_bool hm.out, rfl⟩

theorem firstFault_any (b0 b1 b2 : Bool) (e0 e1 e2 : Int) (g : Nat) (w : World) (h : At w g 147 #[.bool b0, .int .i64 e0, .bool b1, .int .i64 e1, .bool b2, .int .i64 e2]) :
    Calls Tryd.prog 79 #[.slice (some ⟨g, 0, none⟩) 3 3] w fun r w' => r = .returned (.int .i64 (ff b0 b1 b2 e0 e1 e2)) ∧ Below w.heap.size w w' := by
  have hg := h.inside
  have c0 := h.cell 0
  have c1 := h.cell 1
  have c2 := h.cell 2
  have c3 := h.cell 3
  have c4 := h.cell 4
  have c5 := h.cell 5
  simp at c0 c1 c2 c3 c4 c5
  cases b0
  · go_enter Tryd.func79, Tryd.ntmps79
    go_wp2_with fail
    refine wp_loop_rounds 4 ?_
    rw [rounds_succ]
    go_wp2
    go_ret
    exact ⟨ret_int rfl, by repeat (first | exact Below.refl _ _ | refine Below.alloc ?_ (by simp <;> omega) _ | refine Below.setCell ?_ (by simp <;> omega) _)⟩
  cases b1
  · go_enter Tryd.func79, Tryd.ntmps79
    go_wp2_with fail
    refine wp_loop_rounds 4 ?_
    rw [rounds_succ]
    go_wp2
    rw [rounds_succ]
    go_wp2
    go_ret
    exact ⟨ret_int rfl, by repeat (first | exact Below.refl _ _ | refine Below.alloc ?_ (by simp <;> omega) _ | refine Below.setCell ?_ (by simp <;> omega) _)⟩
  cases b2
  · go_enter Tryd.func79, Tryd.ntmps79
    go_wp2_with fail
    refine wp_loop_rounds 4 ?_
    rw [rounds_succ]
    go_wp2
    rw [rounds_succ]
    go_wp2
    rw [rounds_succ]
    go_wp2
    go_ret
    exact ⟨ret_int rfl, by repeat (first | exact Below.refl _ _ | refine Below.alloc ?_ (by simp <;> omega) _ | refine Below.setCell ?_ (by simp <;> omega) _)⟩
  · go_enter Tryd.func79, Tryd.ntmps79
    go_wp2_with fail
    refine wp_loop_rounds 4 ?_
    rw [rounds_succ]
    go_wp2
    rw [rounds_succ]
    go_wp2
    rw [rounds_succ]
    go_wp2
    rw [rounds_succ]
    go_wp2
    go_ret
    exact ⟨ret_int rfl, by repeat (first | exact Below.refl _ _ | refine Below.alloc ?_ (by simp <;> omega) _ | refine Below.setCell ?_ (by simp <;> omega) _)⟩

theorem Between_any (n a b : Int) (w : World) :
    Calls Tryd.prog 81 #[.int .i64 n, .int .i64 a, .int .i64 b] w fun r w' => r = .returned (.bool (btwB n a b)) ∧ Below w.heap.size w w' :=
  (between_any n a b w).mono fun r w' ⟨h1, h2⟩ => ⟨h1, by subst h2; exact Below.refl _ _⟩

set_option maxHeartbeats 4000000 in
theorem Check_any (fx fy tx ty pe pl de dl ld sv : Int) (w : World) :
    Calls Tryd.prog 58 #[.agg #[.int .i64 fx, .int .i64 fy, .int .i64 tx, .int .i64 ty, .int .i64 pe, .int .i64 pl, .int .i64 de, .int .i64 dl, .int .i64 ld, .int .i64 sv]] w fun r w' => r = .returned (.int .i64 (chk fx fy tx ty pe pl de dl ld sv)) ∧ Below w.heap.size w w' := by
  have hP0 : At (w.alloc (.cells #[.int .i64 fx, .int .i64 fy, .int .i64 tx, .int .i64 ty, .int .i64 pe, .int .i64 pl, .int .i64 de, .int .i64 dl, .int .i64 ld, .int .i64 sv] 60)) w.heap.size 60 #[.int .i64 fx, .int .i64 fy, .int .i64 tx, .int .i64 ty, .int .i64 pe, .int .i64 pl, .int .i64 de, .int .i64 dl, .int .i64 ld, .int .i64 sv] := At.new w _ _
  have hb0 : Below w.heap.size w (w.alloc (.cells #[.int .i64 fx, .int .i64 fy, .int .i64 tx, .int .i64 ty, .int .i64 pe, .int .i64 pl, .int .i64 de, .int .i64 dl, .int .i64 ld, .int .i64 sv] 60)) := (Below.refl _ _).alloc (Nat.le_refl _) _
  obtain ⟨b1, h1⟩ : ∃ b, mayB (fx, fy) = b := ⟨_, rfl⟩
  obtain ⟨b2, h2⟩ : ∃ b, okB pe pl = b := ⟨_, rfl⟩
  obtain ⟨b3, h3⟩ : ∃ b, btwB ld 1 1000 = b := ⟨_, rfl⟩
  have hE : chk fx fy tx ty pe pl de dl ld sv = ff (b1 && mayB (tx, ty)) (b2 && okB de dl) (b3 && btwB sv 0 1000) 4 5 6 := by unfold chk; rw [h1, h2, h3]
  rw [hE]
  clear hE
  obtain ⟨b4, h4⟩ : ∃ b, mayB (tx, ty) = b := ⟨_, rfl⟩
  obtain ⟨b5, h5⟩ : ∃ b, okB de dl = b := ⟨_, rfl⟩
  obtain ⟨b6, h6⟩ : ∃ b, btwB sv 0 1000 = b := ⟨_, rfl⟩
  rw [h4, h5, h6]
  have cF : ∀ w, Calls Tryd.prog 80 #[.agg #[.int .i64 fx, .int .i64 fy]] w fun e w' => e = .returned (.bool b1) ∧ Below w.heap.size w w' := fun w => by rw [← h1]; exact Place.May_any _ _ w
  have cT : ∀ w, Calls Tryd.prog 80 #[.agg #[.int .i64 tx, .int .i64 ty]] w fun e w' => e = .returned (.bool b4) ∧ Below w.heap.size w w' := fun w => by rw [← h4]; exact Place.May_any _ _ w
  have cP : ∀ w, Calls Tryd.prog 87 #[.agg #[.int .i64 pe, .int .i64 pl]] w fun e w' => e = .returned (.bool b2) ∧ Below w.heap.size w w' := fun w => by rw [← h2]; exact Window.May_any _ _ w
  have cD : ∀ w, Calls Tryd.prog 87 #[.agg #[.int .i64 de, .int .i64 dl]] w fun e w' => e = .returned (.bool b5) ∧ Below w.heap.size w w' := fun w => by rw [← h5]; exact Window.May_any _ _ w
  have cL : ∀ w, Calls Tryd.prog 81 #[.int .i64 ld, .int .i64 1, .int .i64 1000] w fun e w' => e = .returned (.bool b3) ∧ Below w.heap.size w w' := fun w => by rw [← h3]; exact Between_any _ _ _ w
  have cS : ∀ w, Calls Tryd.prog 81 #[.int .i64 sv, .int .i64 0, .int .i64 1000] w fun e w' => e = .returned (.bool b6) ∧ Below w.heap.size w w' := fun w => by rw [← h6]; exact Between_any _ _ _ w
  clear h1 h2 h3 h4 h5 h6
  go_enter Tryd.func58, Tryd.ntmps58
  go_wp2_with fail
  generalize (w.alloc (.cells #[.int .i64 fx, .int .i64 fy, .int .i64 tx, .int .i64 ty, .int .i64 pe, .int .i64 pl, .int .i64 de, .int .i64 dl, .int .i64 ld, .int .i64 sv] 60)) = w0 at *
  have c0 := hP0.cell 0
  have c1 := hP0.cell 1
  have c2 := hP0.cell 2
  have c3 := hP0.cell 3
  have c4 := hP0.cell 4
  have c5 := hP0.cell 5
  have c6 := hP0.cell 6
  have c7 := hP0.cell 7
  have c8 := hP0.cell 8
  have c9 := hP0.cell 9
  simp at c0 c1 c2 c3 c4 c5 c6 c7 c8 c9
  have kc0 := cell_regrown c0
  have kc1 := cell_regrown c1
  have kc2 := cell_regrown c2
  have kc3 := cell_regrown c3
  have kc4 := cell_regrown c4
  have kc5 := cell_regrown c5
  have kc6 := cell_regrown c6
  have kc7 := cell_regrown c7
  have kc8 := cell_regrown c8
  have kc9 := cell_regrown c9
  have kF := fun d os => Calls.regrown_of (cF (grow (redrawn w0 d) os))
  have kT := fun d os => Calls.regrown_of (cT (grow (redrawn w0 d) os))
  have kP := fun d os => Calls.regrown_of (cP (grow (redrawn w0 d) os))
  have kD := fun d os => Calls.regrown_of (cD (grow (redrawn w0 d) os))
  have kL := fun d os => Calls.regrown_of (cL (grow (redrawn w0 d) os))
  have kS := fun d os => Calls.regrown_of (cS (grow (redrawn w0 d) os))
  clear cF cT cP cD cL cS
  refine wp_region_below_tail 27 (by kernel_rfl) (by kernel_rfl) (by kernel_rfl) ?_
  simp only [List.take_succ_cons, List.take_zero, List.drop_succ_cons, List.drop_zero]
  cases b1 <;> cases b2 <;> cases b3
  all_goals
    repeat (go_big_quiet_step (first | with_reducible exact kF _ _ | with_reducible exact kT _ _ | with_reducible exact kP _ _ | with_reducible exact kD _ _ | with_reducible exact kL _ _ | with_reducible exact kS _ _))
    refine wpQuiet_nil ?_
    intro _ hw'
    obtain ⟨⟨dq, osq⟩, hw''⟩ := hw'
    subst hw''
    have hB := hb0.trans ((below_regrown w0 dq osq).mono hb0.size)
    generalize grow (redrawn w0 dq) osq = w2 at *
    clear kF kT kP kD kL kS kc0 kc1 kc2 kc3 kc4 kc5 kc6 kc7 kc8 kc9 c0 c1 c2 c3 c4 c5 c6 c7 c8 c9 hP0 hb0
    go_wp2_with fail
    refine (firstFault_any _ _ _ 4 5 6 _ _ (At.new _ _ _)).mono ?_
    rintro e w3 ⟨rfl, hb3⟩
    have hE := (hB.alloc hB.size _).trans (hb3.mono (by simp; have := hB.size; omega))
    clear hb3 hB
    go_wp2
    go_ret
    exact ⟨ret_int (by simp), hE⟩

set_option maxHeartbeats 4000000 in
theorem Vehicle_any (hx hy cp st en : Int) (w : World) :
    Calls Tryd.prog 55 #[.agg #[.int .i64 hx, .int .i64 hy, .int .i64 cp, .int .i64 st, .int .i64 en]] w fun r w' => r = .returned (.int .i64 (veh hx hy cp st en)) ∧ Below w.heap.size w w' := by
  have hP0 : At (w.alloc (.cells #[.int .i64 hx, .int .i64 hy, .int .i64 cp, .int .i64 st, .int .i64 en] 28)) w.heap.size 28 #[.int .i64 hx, .int .i64 hy, .int .i64 cp, .int .i64 st, .int .i64 en] := At.new w _ _
  have hb0 : Below w.heap.size w (w.alloc (.cells #[.int .i64 hx, .int .i64 hy, .int .i64 cp, .int .i64 st, .int .i64 en] 28)) := (Below.refl _ _).alloc (Nat.le_refl _) _
  obtain ⟨b1, h1⟩ : ∃ b, mayB (hx, hy) = b := ⟨_, rfl⟩
  obtain ⟨b2, h2⟩ : ∃ b, btwB cp 1 100000 = b := ⟨_, rfl⟩
  obtain ⟨b3, h3⟩ : ∃ b, btwB st 0 1048576 = b := ⟨_, rfl⟩
  obtain ⟨b4, h4⟩ : ∃ b, btwB en st 1048576 = b := ⟨_, rfl⟩
  have hE : veh hx hy cp st en = ff b1 b2 (b3 && b4) 4 7 7 := by unfold veh; rw [h1, h2, h3, h4]
  rw [hE]
  clear hE
  have cH : ∀ w, Calls Tryd.prog 80 #[.agg #[.int .i64 hx, .int .i64 hy]] w fun e w' => e = .returned (.bool b1) ∧ Below w.heap.size w w' := fun w => by rw [← h1]; exact Place.May_any _ _ w
  have cC : ∀ w, Calls Tryd.prog 81 #[.int .i64 cp, .int .i64 1, .int .i64 100000] w fun e w' => e = .returned (.bool b2) ∧ Below w.heap.size w w' := fun w => by rw [← h2]; exact Between_any _ _ _ w
  have cS : ∀ w, Calls Tryd.prog 81 #[.int .i64 st, .int .i64 0, .int .i64 1048576] w fun e w' => e = .returned (.bool b3) ∧ Below w.heap.size w w' := fun w => by rw [← h3]; exact Between_any _ _ _ w
  have cE : ∀ w, Calls Tryd.prog 81 #[.int .i64 en, .int .i64 st, .int .i64 1048576] w fun e w' => e = .returned (.bool b4) ∧ Below w.heap.size w w' := fun w => by rw [← h4]; exact Between_any _ _ _ w
  clear h1 h2 h3 h4
  go_enter Tryd.func55, Tryd.ntmps55
  go_wp2_with fail
  generalize (w.alloc (.cells #[.int .i64 hx, .int .i64 hy, .int .i64 cp, .int .i64 st, .int .i64 en] 28)) = w0 at *
  have c0 := hP0.cell 0
  have c1 := hP0.cell 1
  have c2 := hP0.cell 2
  have c3 := hP0.cell 3
  have c4 := hP0.cell 4
  simp at c0 c1 c2 c3 c4
  have kc0 := cell_regrown c0
  have kc1 := cell_regrown c1
  have kc2 := cell_regrown c2
  have kc3 := cell_regrown c3
  have kc4 := cell_regrown c4
  have kH := fun d os => Calls.regrown_of (cH (grow (redrawn w0 d) os))
  have kC := fun d os => Calls.regrown_of (cC (grow (redrawn w0 d) os))
  have kS := fun d os => Calls.regrown_of (cS (grow (redrawn w0 d) os))
  have kE := fun d os => Calls.regrown_of (cE (grow (redrawn w0 d) os))
  clear cH cC cS cE
  refine wp_region_below_tail 19 (by kernel_rfl) (by kernel_rfl) (by kernel_rfl) ?_
  simp only [List.take_succ_cons, List.take_zero, List.drop_succ_cons, List.drop_zero]
  cases b3
  all_goals
    repeat (go_big_quiet_step (first | with_reducible exact kH _ _ | with_reducible exact kC _ _ | with_reducible exact kS _ _ | with_reducible exact kE _ _))
    refine wpQuiet_nil ?_
    intro _ hw'
    obtain ⟨⟨dq, osq⟩, hw''⟩ := hw'
    subst hw''
    have hB := hb0.trans ((below_regrown w0 dq osq).mono hb0.size)
    generalize grow (redrawn w0 dq) osq = w2 at *
    clear kH kC kS kE kc0 kc1 kc2 kc3 kc4 c0 c1 c2 c3 c4 hP0 hb0
    go_wp2_with fail
    refine (firstFault_any _ _ _ 4 7 7 _ _ (At.new _ _ _)).mono ?_
    rintro e w3 ⟨rfl, hb3⟩
    have hE := (hB.alloc hB.size _).trans (hb3.mono (by simp; have := hB.size; omega))
    clear hb3 hB
    go_wp2
    go_ret
    exact ⟨ret_int (by simp), hE⟩

end Go.Proofs.YthjdacbgcpldjaaDoor.Order

/-
  The contracts of 'Same' and 'ints': are both rows alike?
-/
namespace Go.Proofs.YthjdacbgcpldjaaDoor.Route
open Go.RowKit Go.Proofs.YthjdacbgcpldjaaDoor.Mem
set_option linter.unusedVariables false

theorem unlike_at {α : Type} [DecidableEq α] {xs ys : List α} {k : Nat} {s t : α} (hs : xs[k]? = some s) (ht : ys[k]? = some t) (h : s ≠ t) : decide (xs = ys) = false := by
  simp only [decide_eq_false_iff_not]
  rintro rfl
  rw [hs] at ht
  cases ht
  exact h rfl
theorem unlike_len {α : Type} [DecidableEq α] {xs ys : List α} (h : xs.length ≠ ys.length) : decide (xs = ys) = false := by
  simp only [decide_eq_false_iff_not]
  rintro rfl
  exact h rfl
theorem alike_all {α : Type} [DecidableEq α] {xs ys : List α} {N : Nat} (h1 : xs.length = N) (h2 : ys.length = N) (h : xs.take N = ys.take N) : decide (xs = ys) = true := by
  rw [← h1, List.take_length, h1, ← h2, List.take_length] at h
  simpa using h
theorem take_getT {α : Type} {l : List α} {k : Nat} {s : α} (h : l[k]? = some s) : l.take (k + 1) = l.take k ++ [s] := by rw [List.take_add_one, h]; rfl
theorem alike_succ {α : Type} {xs ys : List α} {k : Nat} {s t : α} (hs : xs[k]? = some s) (ht : ys[k]? = some t) (h : xs.take k = ys.take k) (e : s = t) : xs.take (k + 1) = ys.take (k + 1) := by
  rw [take_getT hs, take_getT ht, h, e]



end Go.Proofs.YthjdacbgcpldjaaDoor.Route

/-
  The contracts of the document's Without and At.
-/
namespace Go.Proofs.YthjdacbgcpldjaaDoor.Route
open Go.RowKit Go.Proofs.YthjdacbgcpldjaaDoor.Mem
set_option linter.unusedVariables false

theorem wo_succ_no {l : List (Int × Int)} {k : Nat} {s : Int × Int} {r : Int} (h : l[k]? = some s) (hr : s.1 = r) : woL r (l.take (k + 1)) = woL r (l.take k) := by rw [take_get h, wo_append]; simp [woL, hr]
theorem wo_succ_yes {l : List (Int × Int)} {k : Nat} {s : Int × Int} {r : Int} (h : l[k]? = some s) (hr : s.1 ≠ r) : woL r (l.take (k + 1)) = woL r (l.take k) ++ [s] := by rw [take_get h, wo_append]; simp [woL, hr]
theorem wo_take_le (r : Int) (l : List (Int × Int)) (k : Nat) : (woL r (l.take k)).length ≤ k := by
  have := wo_length r (l.take k)
  rw [List.length_take] at this
  omega
theorem nums_wo {r : Int} {l : List (Int × Int)} (h : Nums l) : Nums (woL r l) := fun s hs => h s (List.mem_filter.1 hs).1

set_option maxRecDepth 100000 in
set_option maxHeartbeats 1000000 in
theorem refWithout_any (v : Value) (l : List (Int × Int)) (r : Int) (hl : l.length ≤ 1000000) (w : World) (h : Row w.heap.size w v l) :
    Calls Tryd.prog 28 #[v, .int .i64 r] w fun e w' => (∃ v', e = .returned v' ∧ Row w'.heap.size w' v' (woL r l)) ∧ Below w.heap.size w w' := by
  obtain ⟨i0, hi, hz0, hz1, hz2⟩ := info_parts info_stop
  obtain ⟨x, N, cap, rfl, hN', h0', hc1, hc2⟩ := h.opened
  have h' := Lib.hid h
  rw [hN'.out] at hl
  clear h
  go_enter Tryd.func28, Tryd.ntmps28
  go_wp2
  go_loopw [5, 6] (fun u i wr => ∃ k : Nat, k ≤ N ∧ i = .int .i64 k ∧ wr.ownsRow w.heap.size 66 2 u (woL r (l.take k)).length (flatS (woL r (l.take k))) ∧ Below w.heap.size w wr)
    (fun _ i _ => N - (intOf i).toNat)
  case atStart => exact ⟨0, by omega, rfl, by simpa [woL, flatS] using World.ownsRow_nil _ _ _ _, Below.refl _ _⟩
  case round =>
    obtain ⟨k, hk, rfl, hown, hbw⟩ := hrel
    by_cases hlt : k < N
    · obtain ⟨s, hs, _⟩ := drop_get (l := l) (k := k) (by rw [hN'.out]; exact hlt)
      obtain ⟨g, o, rfl, hg, e1, e2⟩ := Row.stop h'.out hs
      have e1 := (hbw.cell (p := ⟨g, o + k * 2, none⟩) hg).trans e1
      have e2 := (hbw.cell (p := ⟨g, o + k * 2 + 1, none⟩) hg).trans e2
      have hyes := Lib.hid (wo_succ_yes (r := r) hs)
      have hno := Lib.hid (wo_succ_no (r := r) hs)
      have hln := wo_take_le r l k
      clear hs
      obtain ⟨s1, s2⟩ := s
      simp at e1 e2
      cases h1 : (s1 == r)
      · have hy := Lib.hid (hyes.out (by simpa using h1))
        clear hyes hno
        generalize woL r (l.take k) = L at *
        have hs := hbw.size
        go_wp2_with (at_builtin; refine wpList_append_own _ rfl _ _ 29 rfl w.heap.size 66 i0 (.agg #[.int .i64 0, .int .i64 0]) 2 16 Tryd.underlying29 hi hz0 hz1 hz2 rfl (by decide) _ _ _ rfl (hown.alloc _) ⟨wr.heap.size, 0, none⟩ 1 1 [.int .i64 s1, .int .i64 s2] rfl rfl (World.news_of_block (cs := #[.int .i64 s1, .int .i64 s2]) (t := 66) (fr := (0, 0)) (heap_alloc_new wr _)) (by simp [Value.oneCell']) (by unfold maxLen; omega) (by omega) (by simp; omega) ?_; intro v7 w7 hown7 hgrow7 hnil7)
        have hb7 : Below w.heap.size w w7 := (hbw.alloc hbw.size _).grown hgrow7 (by simp; omega) (owns_row hown)
        go_roundw
        case rel => exact ⟨k + 1, by omega, by go_num, by rw [hy.out, flatS_snoc, List.length_append]; exact hown7, hb7⟩
        case measure => simp [intOf]; omega
      · have hy := Lib.hid (hno.out (by simpa using h1))
        clear hyes hno
        go_wp2
        go_roundw
        case rel => exact ⟨k + 1, by omega, by go_num, by rw [hy.out]; exact hown, hbw⟩
        case measure => simp [intOf]; omega
    · obtain rfl : k = N := by omega
      have he : l.take k = l := by rw [← hN'.out, List.take_length]
      rw [he] at hown
      clear he
      have hr := Lib.hid (Row.of_owns (B := wr.heap.size) hown rfl (Nat.le_refl _))
      clear hown
      go_wp2
      go_ret
      exact ⟨⟨_, rfl, hr.out⟩, hbw⟩

theorem ix_here {l : List (Int × Int)} {k : Nat} {s x : Int × Int} (h : l[k]? = some x) (e : x = s) : (k : Int) = ixF s k (l.drop k) := by
  have hlt := (List.getElem?_eq_some_iff.1 h)
  obtain ⟨hlt, hx⟩ := hlt
  rw [List.drop_eq_getElem_cons hlt, hx, ixF_yes e]
theorem ix_past {l : List (Int × Int)} {k : Nat} {s x : Int × Int} (h : l[k]? = some x) (e : x ≠ s) : ixF s (k + 1) (l.drop (k + 1)) = ixF s k (l.drop k) := by
  obtain ⟨hlt, hx⟩ := List.getElem?_eq_some_iff.1 h
  rw [List.drop_eq_getElem_cons hlt, hx, ixF_no e]
theorem ret_two {a b c d : Int} (h : a = b) (h2 : c = d) : Ending.returned (.tuple #[.int .i64 a, .int .i64 c]) = .returned (.tuple #[.int .i64 b, .int .i64 d]) := by rw [h, h2]


end Go.Proofs.YthjdacbgcpldjaaDoor.Route
