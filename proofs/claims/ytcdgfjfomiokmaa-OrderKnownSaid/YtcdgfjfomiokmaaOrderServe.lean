/-
  Contracts of what 'Alone' goes by: its closure, and of what a request takes at least.
-/
import Derived.Test.YtcdgfjfomiokmaaOrderRefs
namespace Go.Proofs.Ytcdgfjfomiokmaa.Order
open Go.RowKit Go.Sort Go.Proofs.Ytcdgfjfomiokmaa.Mem Go.Proofs.Ytcdgfjfomiokmaa.Place Go.Proofs.Ytcdgfjfomiokmaa.Window
set_option linter.unusedVariables false

theorem waitV_bd {e l : Int} (t : Int) (h : okB e l = true) : 0 ≤ waitV e l t ∧ waitV e l t ≤ 1048576 := by
  unfold waitV
  cases hb : waitB e l t
  · simp [orNil]
  · rw [orNil_t]
    rw [okB_iff] at h
    rw [waitB_iff] at hb
    omega

theorem in_Alone1 : ∀ args w, (callFunc 31 args).run Try.prog w = .ok (.enter 31 args) w := fun args w => enters Try.func31 (by kernel_rfl) rfl args w

set_option maxHeartbeats 4000000 in
theorem Alone1_any (x y e l lv px py : Int) (fx fy tx ty pe pl de dl ld sv : Int) (a b c B : Nat) (w : World) (hok : okB e l = true) (hlv : 0 ≤ lv ∧ lv ≤ 4000000) (hsv : 0 ≤ sv ∧ sv ≤ 1000)
    (hA : At w a 3 #[.int .i64 lv]) (hP : At w b 23 #[.int .i64 px, .int .i64 py]) (hR : At w c 27 #[.int .i64 fx, .int .i64 fy, .int .i64 tx, .int .i64 ty, .int .i64 pe, .int .i64 pl, .int .i64 de, .int .i64 dl, .int .i64 ld, .int .i64 sv]) (hab : a ≠ b) (hBa : B ≤ a) (hBb : B ≤ b) :
    Calls Try.prog 31 #[.agg #[.int .i64 x, .int .i64 y], .agg #[.int .i64 e, .int .i64 l], .pointer (some ⟨a, 0, none⟩), .pointer (some ⟨b, 0, none⟩), .pointer (some ⟨c, 0, none⟩)] w
      fun r w' => r = .returned (.bool (waitB e l (lv + distV (px, py) (x, y)))) ∧ At w' a 3 #[.int .i64 (waitV e l (lv + distV (px, py) (x, y)) + sv)] ∧ At w' b 23 #[.int .i64 x, .int .i64 y] ∧ Below B w w' := by
  have hX0 : At ((w.alloc (.cells #[.int .i64 x, .int .i64 y] 23)).alloc (.cells #[.int .i64 e, .int .i64 l] 25)) w.heap.size 23 #[.int .i64 x, .int .i64 y] := (At.new w _ _).alloc _
  have hW0 : At ((w.alloc (.cells #[.int .i64 x, .int .i64 y] 23)).alloc (.cells #[.int .i64 e, .int .i64 l] 25)) (w.heap.size + 1) 25 #[.int .i64 e, .int .i64 l] := At.new_ _ _ _ (by simp)
  have hA0 := (hA.alloc (.cells #[.int .i64 x, .int .i64 y] 23)).alloc (.cells #[.int .i64 e, .int .i64 l] 25)
  have hP0 := (hP.alloc (.cells #[.int .i64 x, .int .i64 y] 23)).alloc (.cells #[.int .i64 e, .int .i64 l] 25)
  have hR0 := (hR.alloc (.cells #[.int .i64 x, .int .i64 y] 23)).alloc (.cells #[.int .i64 e, .int .i64 l] 25)
  have hb0 : Below w.heap.size w ((w.alloc (.cells #[.int .i64 x, .int .i64 y] 23)).alloc (.cells #[.int .i64 e, .int .i64 l] 25)) := ((Below.refl _ _).alloc (Nat.le_refl _) _).alloc (by simp) _
  have hlt := hA.inside
  obtain ⟨D, hD⟩ : ∃ D, distV (px, py) (x, y) = D := ⟨_, rfl⟩
  have hDb := distV_bd (px, py) (x, y)
  rw [hD] at hDb ⊢
  obtain ⟨T, hT⟩ : ∃ T, lv + D = T := ⟨_, rfl⟩
  have hVb := waitV_bd (e := e) (l := l) (lv + D) hok
  obtain ⟨V, hV⟩ : ∃ V, waitV e l (lv + D) = V := ⟨_, rfl⟩
  obtain ⟨W, hW⟩ : ∃ W, waitB e l (lv + D) = W := ⟨_, rfl⟩
  rw [hV] at hVb ⊢
  rw [hW]
  have cD : ∀ w, Calls Try.prog 33 #[.agg #[.int .i64 px, .int .i64 py], .agg #[.int .i64 x, .int .i64 y]] w fun r w' => r = .returned (.int .i64 D) ∧ Below w.heap.size w w' := fun w => by rw [← hD]; exact Dist_any _ _ _ _ w
  have cW : ∀ w, Calls Try.prog 32 #[.agg #[.int .i64 e, .int .i64 l], .int .i64 (lv + D)] w fun r w' => r = .returned (.tuple #[.int .i64 V, .bool W]) ∧ Below w.heap.size w w' := fun w => by rw [← hV, ← hW]; exact Wait_any _ _ _ w
  clear hD hV hW hA hP hR hT T
  obtain ⟨hl1, hl2⟩ := hlv
  obtain ⟨hd1, hd2⟩ := hDb
  obtain ⟨hv1, hv2⟩ := hVb
  obtain ⟨hs1, hs2⟩ := hsv
  go_enter Try.func31, Try.ntmps31
  go_wp2_with fail
  generalize ((w.alloc (.cells #[.int .i64 x, .int .i64 y] 23)).alloc (.cells #[.int .i64 e, .int .i64 l] 25)) = w0 at *
  have x0 := hX0.cell 0
  have x1 := hX0.cell 1
  simp at x0 x1
  have u0 := hW0.cell 0
  have u1 := hW0.cell 1
  simp at u0 u1
  have a0 := hA0.cell 0
  simp at a0
  have p0 := hP0.cell 0
  have p1 := hP0.cell 1
  simp at p0 p1
  have kx0 := cell_regrown x0
  have kx1 := cell_regrown x1
  have ku0 := cell_regrown u0
  have ku1 := cell_regrown u1
  have ka0 := cell_regrown a0
  have kp0 := cell_regrown p0
  have kp1 := cell_regrown p1
  have kD := fun d os => Calls.regrown_of (cD (grow (redrawn w0 d) os))
  have kW := fun d os => Calls.regrown_of (cW (grow (redrawn w0 d) os))
  clear cD cW
  refine wp_region_quiet_below (by kernel_rfl) (by kernel_rfl) ?_
  repeat (go_big_quiet_step (first | with_reducible exact kD _ _ | with_reducible exact kW _ _))
  refine wpQuiet_nil ?_
  intro _ hw'
  obtain ⟨⟨dq, osq⟩, hw''⟩ := hw'
  subst hw''
  have hX := hX0.keep (below_regrown w0 dq osq) hX0.inside
  have hA := hA0.keep (below_regrown w0 dq osq) hA0.inside
  have hP := hP0.keep (below_regrown w0 dq osq) hP0.inside
  have hR := hR0.keep (below_regrown w0 dq osq) hR0.inside
  have hE := hb0.trans ((below_regrown w0 dq osq).mono hb0.size)
  generalize grow (redrawn w0 dq) osq = w2 at *
  clear kD kW kx0 kx1 ku0 ku1 ka0 kp0 kp1 x0 x1 u0 u1 a0 p0 p1 hX0 hW0 hA0 hP0 hR0 hb0
  have x0 := hX.cell 0
  have x1 := hX.cell 1
  simp at x0 x1
  have a0 := hA.cell 0
  simp at a0
  have p0 := hP.cell 0
  have p1 := hP.cell 1
  simp at p0 p1
  have r0 := hR.cell 0
  have r1 := hR.cell 1
  have r2 := hR.cell 2
  have r3 := hR.cell 3
  have r4 := hR.cell 4
  have r5 := hR.cell 5
  have r6 := hR.cell 6
  have r7 := hR.cell 7
  have r8 := hR.cell 8
  have r9 := hR.cell 9
  simp at r0 r1 r2 r3 r4 r5 r6 r7 r8 r9
  have fa0 := hA.free 0
  have fp0 := hP.free 0
  have fp1 := hP.free 1
  go_wp2_with fail
  go_region
  all_goals
    go_wp2
    go_ret
    refine ⟨rfl, ?_, ?_, ?_⟩
    · first
      | exact ((((hA.far hab 0 _).far hab 1 _).put 0 _).drew)
      | exact (((hA.far hab 0 _).far hab 1 _).put 0 _)
      | exact (((hA.put 0 _).far hab 0 _).far hab 1 _)
    · first
      | exact (((hP.put 0 _).put 1 _).far (Ne.symm hab) 0 _)
      | exact (((hP.far (Ne.symm hab) 0 _).put 0 _).put 1 _)
    · have hE2 : Below B w w2 := hE.mono (by omega)
      repeat (first | exact hE2 | refine Below.setCell ?_ (by first | omega | simpa using hBa | simpa using hBb) _ | refine Below.drew ?_)

end Go.Proofs.Ytcdgfjfomiokmaa.Order
