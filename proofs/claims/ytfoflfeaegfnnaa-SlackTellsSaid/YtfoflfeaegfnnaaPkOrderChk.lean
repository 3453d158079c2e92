import Derived.Test.YtfoflfeaegfnnaaPkPlaceMath
import Derived.Test.YtfoflfeaegfnnaaPkPlaceMay
import Derived.Test.YtfoflfeaegfnnaaPkWindowMay
import Derived.Test.YtfoflfeaegfnnaaPkUp
import Derived.Deep.RegionHeld3
import Derived.BigRegion
import Derived.Test.YtfoflfeaegfnnaaPkPlaceDist

/-
  Contracts of package order's checks, and of those that answer the same by definition.
-/
namespace Go.Proofs.Ytfoflfeaegfnnaa.Order
open Go.RowKit Go.Sort Go.Proofs.Ytfoflfeaegfnnaa.Mem Go.Proofs.Ytfoflfeaegfnnaa.Place Go.Proofs.Ytfoflfeaegfnnaa.Window Go.Proofs.Ytfoflfeaegfnnaa.Tail
set_option linter.unusedVariables false

theorem ret_int {k : IntKind} {a b : Int} (h : a = b) : Ending.returned (.int k a) = .returned (.int k b) := by rw [h]
theorem ret_bool {a b : Bool} (h : a = b) : Ending.returned (.bool a) = .returned (.bool b) := by rw [h]

theorem btw_no1 {n a b : Int} (h : ¬ n ≥ a) : false = btwB n a b := by simp [btwB]; omega
theorem btw_yes1 {n a b : Int} (h : n ≥ a) : decide (n ≤ b) = btwB n a b := by simp [btwB]; omega

theorem between_any (n a b : Int) (w : World) :
    Calls Try.prog 51 #[.int .i64 n, .int .i64 a, .int .i64 b] w fun r w' => r = .returned (.bool (btwB n a b)) ∧ w = w' := by
  by_cases h1 : n ≥ a
  · have hm := Lib.hid (btw_yes1 (b := b) h1)
    go_enter Try.func51, Try.ntmps51
    go_wp2
    go_ret
    exact ⟨ret_bool hm.out, rfl⟩
  · have hm := Lib.hid (btw_no1 (b := b) h1)
    go_enter Try.func51, Try.ntmps51
    go_wp2
    go_ret
    exact ⟨ret_bool hm.out, rfl⟩

theorem firstFault_any (b0 b1 b2 : Bool) (e0 e1 e2 : Int) (g : Nat) (w : World) (h : At w g 111 #[.bool b0, .int .i64 e0, .bool b1, .int .i64 e1, .bool b2, .int .i64 e2]) :
    Calls Try.prog 49 #[.slice (some ⟨g, 0, none⟩) 3 3] w fun r w' => r = .returned (.int .i64 (ff b0 b1 b2 e0 e1 e2)) ∧ Below w.heap.size w w' := by
  have hg := h.inside
  have c0 := h.cell 0
  have c1 := h.cell 1
  have c2 := h.cell 2
  have c3 := h.cell 3
  have c4 := h.cell 4
  have c5 := h.cell 5
  simp at c0 c1 c2 c3 c4 c5
  cases b0
  · go_enter Try.func49, Try.ntmps49
    go_wp2_with fail
    refine wp_loop_rounds 4 ?_
    rw [rounds_succ]
    go_wp2
    go_ret
    exact ⟨ret_int rfl, by repeat (first | exact Below.refl _ _ | refine Below.alloc ?_ (by simp <;> omega) _ | refine Below.setCell ?_ (by simp <;> omega) _)⟩
  cases b1
  · go_enter Try.func49, Try.ntmps49
    go_wp2_with fail
    refine wp_loop_rounds 4 ?_
    rw [rounds_succ]
    go_wp2
    rw [rounds_succ]
    go_wp2
    go_ret
    exact ⟨ret_int rfl, by repeat (first | exact Below.refl _ _ | refine Below.alloc ?_ (by simp <;> omega) _ | refine Below.setCell ?_ (by simp <;> omega) _)⟩
  cases b2
  · go_enter Try.func49, Try.ntmps49
    go_wp2_with fail
    refine wp_loop_rounds 4 ?_
    rw [rounds_succ]
    go_wp2
    rw [rounds_succ]
    go_wp2
    rw [rounds_succ]
    go_wp2
    go_ret
    exact ⟨ret_int rfl, by repeat (first | exact Below.refl _ _ | refine Below.alloc ?_ (by simp <;> omega) _ | refine Below.setCell ?_ (by simp <;> omega) _)⟩
  · go_enter Try.func49, Try.ntmps49
    go_wp2_with fail
    refine wp_loop_rounds 4 ?_
    rw [rounds_succ]
    go_wp2
    rw [rounds_succ]
    go_wp2
    rw [rounds_succ]
    go_wp2
    rw [rounds_succ]
    go_wp2
    go_ret
    exact ⟨ret_int rfl, by repeat (first | exact Below.refl _ _ | refine Below.alloc ?_ (by simp <;> omega) _ | refine Below.setCell ?_ (by simp <;> omega) _)⟩

theorem Between_any (n a b : Int) (w : World) :
    Calls Try.prog 51 #[.int .i64 n, .int .i64 a, .int .i64 b] w fun r w' => r = .returned (.bool (btwB n a b)) ∧ Below w.heap.size w w' :=
  (between_any n a b w).mono fun r w' ⟨h1, h2⟩ => ⟨h1, by subst h2; exact Below.refl _ _⟩

set_option maxHeartbeats 4000000 in
theorem Check_any (fx fy tx ty pe pl de dl ld sv : Int) (w : World) :
    Calls Try.prog 32 #[.agg #[.int .i64 fx, .int .i64 fy, .int .i64 tx, .int .i64 ty, .int .i64 pe, .int .i64 pl, .int .i64 de, .int .i64 dl, .int .i64 ld, .int .i64 sv]] w fun r w' => r = .returned (.int .i64 (chk fx fy tx ty pe pl de dl ld sv)) ∧ Below w.heap.size w w' := by
  have hP0 : At (w.alloc (.cells #[.int .i64 fx, .int .i64 fy, .int .i64 tx, .int .i64 ty, .int .i64 pe, .int .i64 pl, .int .i64 de, .int .i64 dl, .int .i64 ld, .int .i64 sv] 41)) w.heap.size 41 #[.int .i64 fx, .int .i64 fy, .int .i64 tx, .int .i64 ty, .int .i64 pe, .int .i64 pl, .int .i64 de, .int .i64 dl, .int .i64 ld, .int .i64 sv] := At.new w _ _
  have hb0 : Below w.heap.size w (w.alloc (.cells #[.int .i64 fx, .int .i64 fy, .int .i64 tx, .int .i64 ty, .int .i64 pe, .int .i64 pl, .int .i64 de, .int .i64 dl, .int .i64 ld, .int .i64 sv] 41)) := (Below.refl _ _).alloc (Nat.le_refl _) _
  obtain ⟨b1, h1⟩ : ∃ b, mayB (fx, fy) = b := ⟨_, rfl⟩
  obtain ⟨b2, h2⟩ : ∃ b, okB pe pl = b := ⟨_, rfl⟩
  obtain ⟨b3, h3⟩ : ∃ b, btwB ld 1 1000 = b := ⟨_, rfl⟩
  have hE : chk fx fy tx ty pe pl de dl ld sv = ff (b1 && mayB (tx, ty)) (b2 && okB de dl) (b3 && btwB sv 0 1000) 4 5 6 := by unfold chk; rw [h1, h2, h3]
  rw [hE]
  clear hE
  obtain ⟨b4, h4⟩ : ∃ b, mayB (tx, ty) = b := ⟨_, rfl⟩
  obtain ⟨b5, h5⟩ : ∃ b, okB de dl = b := ⟨_, rfl⟩
  obtain ⟨b6, h6⟩ : ∃ b, btwB sv 0 1000 = b := ⟨_, rfl⟩
  rw [h4, h5, h6]
  have cF : ∀ w, Calls Try.prog 50 #[.agg #[.int .i64 fx, .int .i64 fy]] w fun e w' => e = .returned (.bool b1) ∧ Below w.heap.size w w' := fun w => by rw [← h1]; exact Place.May_any _ _ w
  have cT : ∀ w, Calls Try.prog 50 #[.agg #[.int .i64 tx, .int .i64 ty]] w fun e w' => e = .returned (.bool b4) ∧ Below w.heap.size w w' := fun w => by rw [← h4]; exact Place.May_any _ _ w
  have cP : ∀ w, Calls Try.prog 52 #[.agg #[.int .i64 pe, .int .i64 pl]] w fun e w' => e = .returned (.bool b2) ∧ Below w.heap.size w w' := fun w => by rw [← h2]; exact Window.May_any _ _ w
  have cD : ∀ w, Calls Try.prog 52 #[.agg #[.int .i64 de, .int .i64 dl]] w fun e w' => e = .returned (.bool b5) ∧ Below w.heap.size w w' := fun w => by rw [← h5]; exact Window.May_any _ _ w
  have cL : ∀ w, Calls Try.prog 51 #[.int .i64 ld, .int .i64 1, .int .i64 1000] w fun e w' => e = .returned (.bool b3) ∧ Below w.heap.size w w' := fun w => by rw [← h3]; exact Between_any _ _ _ w
  have cS : ∀ w, Calls Try.prog 51 #[.int .i64 sv, .int .i64 0, .int .i64 1000] w fun e w' => e = .returned (.bool b6) ∧ Below w.heap.size w w' := fun w => by rw [← h6]; exact Between_any _ _ _ w
  clear h1 h2 h3 h4 h5 h6
  go_enter Try.func32, Try.ntmps32
  go_wp2_with fail
  generalize (w.alloc (.cells #[.int .i64 fx, .int .i64 fy, .int .i64 tx, .int .i64 ty, .int .i64 pe, .int .i64 pl, .int .i64 de, .int .i64 dl, .int .i64 ld, .int .i64 sv] 41)) = w0 at *
  have c0 := hP0.cell 0
  have c1 := hP0.cell 1
  have c2 := hP0.cell 2
  have c3 := hP0.cell 3
  have c4 := hP0.cell 4
  have c5 := hP0.cell 5
  have c6 := hP0.cell 6
  have c7 := hP0.cell 7
  have c8 := hP0.cell 8
  have c9 := hP0.cell 9
  simp at c0 c1 c2 c3 c4 c5 c6 c7 c8 c9
  have kc0 := cell_regrown c0
  have kc1 := cell_regrown c1
  have kc2 := cell_regrown c2
  have kc3 := cell_regrown c3
  have kc4 := cell_regrown c4
  have kc5 := cell_regrown c5
  have kc6 := cell_regrown c6
  have kc7 := cell_regrown c7
  have kc8 := cell_regrown c8
  have kc9 := cell_regrown c9
  have kF := fun d os => Calls.regrown_of (cF (grow (redrawn w0 d) os))
  have kT := fun d os => Calls.regrown_of (cT (grow (redrawn w0 d) os))
  have kP := fun d os => Calls.regrown_of (cP (grow (redrawn w0 d) os))
  have kD := fun d os => Calls.regrown_of (cD (grow (redrawn w0 d) os))
  have kL := fun d os => Calls.regrown_of (cL (grow (redrawn w0 d) os))
  have kS := fun d os => Calls.regrown_of (cS (grow (redrawn w0 d) os))
  clear cF cT cP cD cL cS
  refine wp_region_below_tail 27 (by kernel_rfl) (by kernel_rfl) (by kernel_rfl) ?_
  simp only [List.take_succ_cons, List.take_zero, List.drop_succ_cons, List.drop_zero]
  cases b1 <;> cases b2 <;> cases b3
  all_goals
    repeat (go_big_quiet_step (first | with_reducible exact kF _ _ | with_reducible exact kT _ _ | with_reducible exact kP _ _ | with_reducible exact kD _ _ | with_reducible exact kL _ _ | with_reducible exact kS _ _))
    refine wpQuiet_nil ?_
    intro _ hw'
    obtain ⟨⟨dq, osq⟩, hw''⟩ := hw'
    subst hw''
    have hB := hb0.trans ((below_regrown w0 dq osq).mono hb0.size)
    generalize grow (redrawn w0 dq) osq = w2 at *
    clear kF kT kP kD kL kS kc0 kc1 kc2 kc3 kc4 kc5 kc6 kc7 kc8 kc9 c0 c1 c2 c3 c4 c5 c6 c7 c8 c9 hP0 hb0
    go_wp2_with fail
    refine (firstFault_any _ _ _ 4 5 6 _ _ (At.new _ _ _)).mono ?_
    rintro e w3 ⟨rfl, hb3⟩
    have hE := (hB.alloc hB.size _).trans (hb3.mono (by simp; have := hB.size; omega))
    clear hb3 hB
    go_wp2
    go_ret
    exact ⟨ret_int (by simp), hE⟩

set_option maxHeartbeats 4000000 in
theorem Vehicle_any (hx hy cp st en : Int) (w : World) :
    Calls Try.prog 31 #[.agg #[.int .i64 hx, .int .i64 hy, .int .i64 cp, .int .i64 st, .int .i64 en]] w fun r w' => r = .returned (.int .i64 (veh hx hy cp st en)) ∧ Below w.heap.size w w' := by
  have hP0 : At (w.alloc (.cells #[.int .i64 hx, .int .i64 hy, .int .i64 cp, .int .i64 st, .int .i64 en] 31)) w.heap.size 31 #[.int .i64 hx, .int .i64 hy, .int .i64 cp, .int .i64 st, .int .i64 en] := At.new w _ _
  have hb0 : Below w.heap.size w (w.alloc (.cells #[.int .i64 hx, .int .i64 hy, .int .i64 cp, .int .i64 st, .int .i64 en] 31)) := (Below.refl _ _).alloc (Nat.le_refl _) _
  obtain ⟨b1, h1⟩ : ∃ b, mayB (hx, hy) = b := ⟨_, rfl⟩
  obtain ⟨b2, h2⟩ : ∃ b, btwB cp 1 100000 = b := ⟨_, rfl⟩
  obtain ⟨b3, h3⟩ : ∃ b, btwB st 0 1048576 = b := ⟨_, rfl⟩
  obtain ⟨b4, h4⟩ : ∃ b, btwB en st 1048576 = b := ⟨_, rfl⟩
  have hE : veh hx hy cp st en = ff b1 b2 (b3 && b4) 4 7 7 := by unfold veh; rw [h1, h2, h3, h4]
  rw [hE]
  clear hE
  have cH : ∀ w, Calls Try.prog 50 #[.agg #[.int .i64 hx, .int .i64 hy]] w fun e w' => e = .returned (.bool b1) ∧ Below w.heap.size w w' := fun w => by rw [← h1]; exact Place.May_any _ _ w
  have cC : ∀ w, Calls Try.prog 51 #[.int .i64 cp, .int .i64 1, .int .i64 100000] w fun e w' => e = .returned (.bool b2) ∧ Below w.heap.size w w' := fun w => by rw [← h2]; exact Between_any _ _ _ w
  have cS : ∀ w, Calls Try.prog 51 #[.int .i64 st, .int .i64 0, .int .i64 1048576] w fun e w' => e = .returned (.bool b3) ∧ Below w.heap.size w w' := fun w => by rw [← h3]; exact Between_any _ _ _ w
  have cE : ∀ w, Calls Try.prog 51 #[.int .i64 en, .int .i64 st, .int .i64 1048576] w fun e w' => e = .returned (.bool b4) ∧ Below w.heap.size w w' := fun w => by rw [← h4]; exact Between_any _ _ _ w
  clear h1 h2 h3 h4
  go_enter Try.func31, Try.ntmps31
  go_wp2_with fail
  generalize (w.alloc (.cells #[.int .i64 hx, .int .i64 hy, .int .i64 cp, .int .i64 st, .int .i64 en] 31)) = w0 at *
  have c0 := hP0.cell 0
  have c1 := hP0.cell 1
  have c2 := hP0.cell 2
  have c3 := hP0.cell 3
  have c4 := hP0.cell 4
  simp at c0 c1 c2 c3 c4
  have kc0 := cell_regrown c0
  have kc1 := cell_regrown c1
  have kc2 := cell_regrown c2
  have kc3 := cell_regrown c3
  have kc4 := cell_regrown c4
  have kH := fun d os => Calls.regrown_of (cH (grow (redrawn w0 d) os))
  have kC := fun d os => Calls.regrown_of (cC (grow (redrawn w0 d) os))
  have kS := fun d os => Calls.regrown_of (cS (grow (redrawn w0 d) os))
  have kE := fun d os => Calls.regrown_of (cE (grow (redrawn w0 d) os))
  clear cH cC cS cE
  refine wp_region_below_tail 19 (by kernel_rfl) (by kernel_rfl) (by kernel_rfl) ?_
  simp only [List.take_succ_cons, List.take_zero, List.drop_succ_cons, List.drop_zero]
  cases b3
  all_goals
    repeat (go_big_quiet_step (first | with_reducible exact kH _ _ | with_reducible exact kC _ _ | with_reducible exact kS _ _ | with_reducible exact kE _ _))
    refine wpQuiet_nil ?_
    intro _ hw'
    obtain ⟨⟨dq, osq⟩, hw''⟩ := hw'
    subst hw''
    have hB := hb0.trans ((below_regrown w0 dq osq).mono hb0.size)
    generalize grow (redrawn w0 dq) osq = w2 at *
    clear kH kC kS kE kc0 kc1 kc2 kc3 kc4 c0 c1 c2 c3 c4 hP0 hb0
    go_wp2_with fail
    refine (firstFault_any _ _ _ 4 7 7 _ _ (At.new _ _ _)).mono ?_
    rintro e w3 ⟨rfl, hb3⟩
    have hE := (hB.alloc hB.size _).trans (hb3.mono (by simp; have := hB.size; omega))
    clear hb3 hB
    go_wp2
    go_ret
    exact ⟨ret_int (by simp), hE⟩

end Go.Proofs.Ytfoflfeaegfnnaa.Order

/-
  The contracts of 'Same' and 'ints': are both rows alike?
-/
namespace Go.Proofs.Ytfoflfeaegfnnaa.Route
open Go.RowKit Go.Proofs.Ytfoflfeaegfnnaa.Mem
set_option linter.unusedVariables false

theorem unlike_at {α : Type} [DecidableEq α] {xs ys : List α} {k : Nat} {s t : α} (hs : xs[k]? = some s) (ht : ys[k]? = some t) (h : s ≠ t) : decide (xs = ys) = false := by
  simp only [decide_eq_false_iff_not]
  rintro rfl
  rw [hs] at ht
  cases ht
  exact h rfl
theorem unlike_len {α : Type} [DecidableEq α] {xs ys : List α} (h : xs.length ≠ ys.length) : decide (xs = ys) = false := by
  simp only [decide_eq_false_iff_not]
  rintro rfl
  exact h rfl
theorem alike_all {α : Type} [DecidableEq α] {xs ys : List α} {N : Nat} (h1 : xs.length = N) (h2 : ys.length = N) (h : xs.take N = ys.take N) : decide (xs = ys) = true := by
  rw [← h1, List.take_length, h1, ← h2, List.take_length] at h
  simpa using h
theorem take_getT {α : Type} {l : List α} {k : Nat} {s : α} (h : l[k]? = some s) : l.take (k + 1) = l.take k ++ [s] := by rw [List.take_add_one, h]; rfl
theorem alike_succ {α : Type} {xs ys : List α} {k : Nat} {s t : α} (hs : xs[k]? = some s) (ht : ys[k]? = some t) (h : xs.take k = ys.take k) (e : s = t) : xs.take (k + 1) = ys.take (k + 1) := by
  rw [take_getT hs, take_getT ht, h, e]



end Go.Proofs.Ytfoflfeaegfnnaa.Route

/-
  The contracts of the document's Without and At.
-/
namespace Go.Proofs.Ytfoflfeaegfnnaa.Route
open Go.RowKit Go.Proofs.Ytfoflfeaegfnnaa.Mem
set_option linter.unusedVariables false

theorem wo_succ_no {l : List (Int × Int)} {k : Nat} {s : Int × Int} {r : Int} (h : l[k]? = some s) (hr : s.1 = r) : woL r (l.take (k + 1)) = woL r (l.take k) := by rw [take_get h, wo_append]; simp [woL, hr]
theorem wo_succ_yes {l : List (Int × Int)} {k : Nat} {s : Int × Int} {r : Int} (h : l[k]? = some s) (hr : s.1 ≠ r) : woL r (l.take (k + 1)) = woL r (l.take k) ++ [s] := by rw [take_get h, wo_append]; simp [woL, hr]
theorem wo_take_le (r : Int) (l : List (Int × Int)) (k : Nat) : (woL r (l.take k)).length ≤ k := by
  have := wo_length r (l.take k)
  rw [List.length_take] at this
  omega
theorem nums_wo {r : Int} {l : List (Int × Int)} (h : Nums l) : Nums (woL r l) := fun s hs => h s (List.mem_filter.1 hs).1


theorem ix_here {l : List (Int × Int)} {k : Nat} {s x : Int × Int} (h : l[k]? = some x) (e : x = s) : (k : Int) = ixF s k (l.drop k) := by
  have hlt := (List.getElem?_eq_some_iff.1 h)
  obtain ⟨hlt, hx⟩ := hlt
  rw [List.drop_eq_getElem_cons hlt, hx, ixF_yes e]
theorem ix_past {l : List (Int × Int)} {k : Nat} {s x : Int × Int} (h : l[k]? = some x) (e : x ≠ s) : ixF s (k + 1) (l.drop (k + 1)) = ixF s k (l.drop k) := by
  obtain ⟨hlt, hx⟩ := List.getElem?_eq_some_iff.1 h
  rw [List.drop_eq_getElem_cons hlt, hx, ixF_no e]
theorem ret_two {a b c d : Int} (h : a = b) (h2 : c = d) : Ending.returned (.tuple #[.int .i64 a, .int .i64 c]) = .returned (.tuple #[.int .i64 b, .int .i64 d]) := by rw [h, h2]


end Go.Proofs.Ytfoflfeaegfnnaa.Route
