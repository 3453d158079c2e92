/-
  consignlaw02.PlaceMetric returns true for all three places: it is 0 of a place and itself alone, the same both ways, and no way round by a third place is shorter. No condition.
-/
import Derived.Test.YtjojdfbjecbhnaaPlaceWorks
import Derived.Test.YtjojdfbjecbhnaaTail
import Derived.Test.YtjojdfbjecbhnaaPlaceOpen
namespace Go.Proofs.Ytjojdfbjecbhnaa.placeMetric
open Go.ChangeShapes Go.WideShapes Go.ChangeAt Go.RowKit Go.Sort Go.Proofs.Ytjojdfbjecbhnaa.Place Go.Proofs.Ytjojdfbjecbhnaa.Mem Go.Proofs.Ytjojdfbjecbhnaa.Tail
set_option linter.unusedVariables false

/-- A number on a side, out of any one. -/
def sideV (n : Int) : Int := n % 18446744073709551616 % 1024
theorem sideV_bd (n : Int) : 0 ≤ sideV n ∧ sideV n < 1024 := by unfold sideV; omega
theorem side_eq (x : Int) : wrap64 ((IntKind.u64.wrap x).tmod 1024) = sideV x := by
  rw [u64_wrap, Int.tmod_eq_emod_of_nonneg (by omega)]
  unfold sideV wrap64
  omega

set_option maxRecDepth 100000 in
set_option maxHeartbeats 4000000 in
theorem walk (ax ay bx by_ cx cy : Int) (w : World) :
    Calls Try.prog 5 #[.agg #[.int .i64 ax, .int .i64 ay], .agg #[.int .i64 bx, .int .i64 by_], .agg #[.int .i64 cx, .int .i64 cy]] w fun e w' => e = .returned (.bool true) ∧ Below w.heap.size w w' := by
  have hA0 : At (((w.alloc (.cells #[.int .i64 ax, .int .i64 ay] 23)).alloc (.cells #[.int .i64 bx, .int .i64 by_] 23)).alloc (.cells #[.int .i64 cx, .int .i64 cy] 23)) w.heap.size 23 #[.int .i64 ax, .int .i64 ay] := ((At.new w _ _).alloc _).alloc _
  have hB0 : At (((w.alloc (.cells #[.int .i64 ax, .int .i64 ay] 23)).alloc (.cells #[.int .i64 bx, .int .i64 by_] 23)).alloc (.cells #[.int .i64 cx, .int .i64 cy] 23)) (w.heap.size + 1) 23 #[.int .i64 bx, .int .i64 by_] := (At.new_ _ _ _ (by simp)).alloc _
  have hC0 : At (((w.alloc (.cells #[.int .i64 ax, .int .i64 ay] 23)).alloc (.cells #[.int .i64 bx, .int .i64 by_] 23)).alloc (.cells #[.int .i64 cx, .int .i64 cy] 23)) (w.heap.size + 1 + 1) 23 #[.int .i64 cx, .int .i64 cy] := At.new_ _ _ _ (by simp)
  have hb0 : Below w.heap.size w (((w.alloc (.cells #[.int .i64 ax, .int .i64 ay] 23)).alloc (.cells #[.int .i64 bx, .int .i64 by_] 23)).alloc (.cells #[.int .i64 cx, .int .i64 cy] 23)) := by
    repeat (first | exact Below.refl _ _ | refine Below.alloc ?_ (by simp <;> omega) _)
  go_enter Try.func5, Try.ntmps5
  go_wp2_with fail
  generalize (((w.alloc (.cells #[.int .i64 ax, .int .i64 ay] 23)).alloc (.cells #[.int .i64 bx, .int .i64 by_] 23)).alloc (.cells #[.int .i64 cx, .int .i64 cy] 23)) = w0 at *
  refine (works_any _).mono ?_
  rintro e w1 ⟨rfl, hb1⟩
  have hA1 := hA0.keep hb1 hA0.inside
  have hB1 := hB0.keep hb1 hB0.inside
  have hC1 := hC0.keep hb1 hC0.inside
  have hB := hb0.trans (hb1.mono hb0.size)
  clear hA0 hB0 hC0 hb0 hb1 w0
  have a0 := hA1.cell 0
  have a1 := hA1.cell 1
  have b0 := hB1.cell 0
  have b1 := hB1.cell 1
  have c0 := hC1.cell 0
  have c1 := hC1.cell 1
  simp at a0 a1 b0 b1 c0 c1
  go_wp2_with fail
  have ka0 := cell_regrown a0
  have ka1 := cell_regrown a1
  have kb0 := cell_regrown b0
  have kb1 := cell_regrown b1
  have kc0 := cell_regrown c0
  have kc1 := cell_regrown c1
  have cA := fun (x y : Int) d os => Calls.regrown_of (at_any x y (grow (redrawn w1 d) os))
  refine wp_region_below_tail 33 (by kernel_rfl) (by kernel_rfl) (by kernel_rfl) ?_
  simp only [List.take_succ_cons, List.take_zero, List.drop_succ_cons, List.drop_zero]
  repeat (go_big_quiet_step (exact cA _ _ _ _))
  refine wpQuiet_nil ?_
  intro _ hw'
  obtain ⟨⟨dq, osq⟩, hw''⟩ := hw'
  subst hw''
  have hA2 := hA1.keep (below_regrown w1 dq osq) hA1.inside
  have hB2 := hB1.keep (below_regrown w1 dq osq) hB1.inside
  have hC2 := hC1.keep (below_regrown w1 dq osq) hC1.inside
  have hBB := hB.trans ((below_regrown w1 dq osq).mono hB.size)
  simp only [side_eq]
  generalize grow (redrawn w1 dq) osq = w2 at *
  clear cA ka0 ka1 kb0 kb1 kc0 kc1 a0 a1 b0 b1 c0 c1 hA1 hB1 hC1 hB w1
  have rax := sideV_bd ax
  have ray := sideV_bd ay
  have rbx := sideV_bd bx
  have rby := sideV_bd by_
  have rcx := sideV_bd cx
  have rcy := sideV_bd cy
  generalize sideV ax = AX at *
  generalize sideV ay = AY at *
  generalize sideV bx = BX at *
  generalize sideV by_ = BY at *
  generalize sideV cx = CX at *
  generalize sideV cy = CY at *
  have a0 := hA2.cell 0
  have a1 := hA2.cell 1
  have b0 := hB2.cell 0
  have b1 := hB2.cell 1
  have c0 := hC2.cell 0
  have c1 := hC2.cell 1
  simp at a0 a1 b0 b1 c0 c1
  have fa0 := hA2.free 0
  have fa1 := hA2.free 1
  have fb0 := hB2.free 0
  have fb1 := hB2.free 1
  have fc0 := hC2.free 0
  have fc1 := hC2.free 1
  have hA3 : At ((((((w2.setCell ⟨w.heap.size, 0, none⟩ (.int .i64 AX)).setCell ⟨w.heap.size, 1, none⟩ (.int .i64 AY)).setCell ⟨w.heap.size + 1, 0, none⟩ (.int .i64 BX)).setCell ⟨w.heap.size + 1, 1, none⟩ (.int .i64 BY)).setCell ⟨w.heap.size + 1 + 1, 0, none⟩ (.int .i64 CX)).setCell ⟨w.heap.size + 1 + 1, 1, none⟩ (.int .i64 CY)) w.heap.size 23 #[.int .i64 AX, .int .i64 AY] := by
    have := (((((hA2.put 0 (.int .i64 AX)).put 1 (.int .i64 AY)).far (b := w.heap.size + 1) (by omega) 0 (.int .i64 BX)).far (b := w.heap.size + 1) (by omega) 1 (.int .i64 BY)).far (b := w.heap.size + 1 + 1) (by omega) 0 (.int .i64 CX)).far (b := w.heap.size + 1 + 1) (by omega) 1 (.int .i64 CY)
    simpa using this
  have hB3 : At ((((((w2.setCell ⟨w.heap.size, 0, none⟩ (.int .i64 AX)).setCell ⟨w.heap.size, 1, none⟩ (.int .i64 AY)).setCell ⟨w.heap.size + 1, 0, none⟩ (.int .i64 BX)).setCell ⟨w.heap.size + 1, 1, none⟩ (.int .i64 BY)).setCell ⟨w.heap.size + 1 + 1, 0, none⟩ (.int .i64 CX)).setCell ⟨w.heap.size + 1 + 1, 1, none⟩ (.int .i64 CY)) (w.heap.size + 1) 23 #[.int .i64 BX, .int .i64 BY] := by
    have := (((((hB2.far (b := w.heap.size) (by omega) 0 (.int .i64 AX)).far (b := w.heap.size) (by omega) 1 (.int .i64 AY)).put 0 (.int .i64 BX)).put 1 (.int .i64 BY)).far (b := w.heap.size + 1 + 1) (by omega) 0 (.int .i64 CX)).far (b := w.heap.size + 1 + 1) (by omega) 1 (.int .i64 CY)
    simpa using this
  have hC3 : At ((((((w2.setCell ⟨w.heap.size, 0, none⟩ (.int .i64 AX)).setCell ⟨w.heap.size, 1, none⟩ (.int .i64 AY)).setCell ⟨w.heap.size + 1, 0, none⟩ (.int .i64 BX)).setCell ⟨w.heap.size + 1, 1, none⟩ (.int .i64 BY)).setCell ⟨w.heap.size + 1 + 1, 0, none⟩ (.int .i64 CX)).setCell ⟨w.heap.size + 1 + 1, 1, none⟩ (.int .i64 CY)) (w.heap.size + 1 + 1) 23 #[.int .i64 CX, .int .i64 CY] := by
    have := (((((hC2.far (b := w.heap.size) (by omega) 0 (.int .i64 AX)).far (b := w.heap.size) (by omega) 1 (.int .i64 AY)).far (b := w.heap.size + 1) (by omega) 0 (.int .i64 BX)).far (b := w.heap.size + 1) (by omega) 1 (.int .i64 BY)).put 0 (.int .i64 CX)).put 1 (.int .i64 CY)
    simpa using this
  have hB4 : Below w.heap.size w ((((((w2.setCell ⟨w.heap.size, 0, none⟩ (.int .i64 AX)).setCell ⟨w.heap.size, 1, none⟩ (.int .i64 AY)).setCell ⟨w.heap.size + 1, 0, none⟩ (.int .i64 BX)).setCell ⟨w.heap.size + 1, 1, none⟩ (.int .i64 BY)).setCell ⟨w.heap.size + 1 + 1, 0, none⟩ (.int .i64 CX)).setCell ⟨w.heap.size + 1 + 1, 1, none⟩ (.int .i64 CY)) :=
    (((((hBB.setCell (p := ⟨w.heap.size, 0, none⟩) (by simp) _).setCell (p := ⟨w.heap.size, 1, none⟩) (by simp) _).setCell (p := ⟨w.heap.size + 1, 0, none⟩) (by simp) _).setCell (p := ⟨w.heap.size + 1, 1, none⟩) (by simp) _).setCell (p := ⟨w.heap.size + 1 + 1, 0, none⟩) (by simp; omega) _).setCell (p := ⟨w.heap.size + 1 + 1, 1, none⟩) (by simp; omega) _
  go_wp2_with fail
  generalize ((((((w2.setCell ⟨w.heap.size, 0, none⟩ (.int .i64 AX)).setCell ⟨w.heap.size, 1, none⟩ (.int .i64 AY)).setCell ⟨w.heap.size + 1, 0, none⟩ (.int .i64 BX)).setCell ⟨w.heap.size + 1, 1, none⟩ (.int .i64 BY)).setCell ⟨w.heap.size + 1 + 1, 0, none⟩ (.int .i64 CX)).setCell ⟨w.heap.size + 1 + 1, 1, none⟩ (.int .i64 CY)) = w3 at *
  clear a0 a1 b0 b1 c0 c1 fa0 fa1 fb0 fb1 fc0 fc1 hA2 hB2 hC2 hBB
  refine (Dist_any _ _ _ _ _).mono ?_
  rintro e w4 ⟨rfl, hb4⟩
  have hA4 := hA3.keep hb4 hA3.inside
  have hB4' := hB3.keep hb4 hB3.inside
  have hC4 := hC3.keep hb4 hC3.inside
  have hBB := hB4.trans (hb4.mono hB4.size)
  clear hb4 hA3 hB3 hC3 hB4 w2
  have a0 := hA4.cell 0
  have a1 := hA4.cell 1
  have b0 := hB4'.cell 0
  have b1 := hB4'.cell 1
  have c0 := hC4.cell 0
  have c1 := hC4.cell 1
  simp at a0 a1 b0 b1 c0 c1
  have mA : mayB (AX, AY) = true := (mayB_iff _).2 ⟨rax, ray⟩
  have mB : mayB (BX, BY) = true := (mayB_iff _).2 ⟨rbx, rby⟩
  have mC : mayB (CX, CY) = true := (mayB_iff _).2 ⟨rcx, rcy⟩
  have dAA : distV (AX, AY) (AX, AY) = 0 := by rw [distV_yes mA mA, gap_self, gap_self]; rfl
  have dBA : distV (BX, BY) (AX, AY) = distV (AX, AY) (BX, BY) := by rw [distV_yes mA mB, distV_yes mB mA, gap_comm BX, gap_comm BY]
  have dAB := distV_yes mA mB
  have dAC := distV_yes mA mC
  have dCB := distV_yes mC mB
  have hle : distV (AX, AY) (BX, BY) ≤ distV (AX, AY) (CX, CY) + distV (CX, CY) (BX, BY) := by
    rw [dAB, dAC, dCB]
    unfold gap
    simp only
    split <;> split <;> split <;> split <;> split <;> split <;> omega
  have bAB : 0 ≤ distV (AX, AY) (BX, BY) ∧ distV (AX, AY) (BX, BY) ≤ 2046 := by
    rw [dAB]
    have := gap_side rax rbx
    have := gap_side ray rby
    simp only
    omega
  have bAC : 0 ≤ distV (AX, AY) (CX, CY) ∧ distV (AX, AY) (CX, CY) ≤ 2046 := by
    rw [dAC]
    have := gap_side rax rcx
    have := gap_side ray rcy
    simp only
    omega
  have bCB : 0 ≤ distV (CX, CY) (BX, BY) ∧ distV (CX, CY) (BX, BY) ≤ 2046 := by
    rw [dCB]
    have := gap_side rcx rbx
    have := gap_side rcy rby
    simp only
    omega
  have hz : distV (AX, AY) (BX, BY) = 0 ↔ AX = BX ∧ AY = BY := by
    rw [dAB]
    have := gap_side rax rbx
    have := gap_side ray rby
    unfold gap at *
    simp only
    split at * <;> split at * <;> omega
  obtain ⟨bAB1, bAB2⟩ := bAB
  obtain ⟨bAC1, bAC2⟩ := bAC
  obtain ⟨bCB1, bCB2⟩ := bCB
  clear dAB dAC dCB mB mC
  have ka0 := cell_regrown a0
  have ka1 := cell_regrown a1
  have kb0 := cell_regrown b0
  have kb1 := cell_regrown b1
  have kc0 := cell_regrown c0
  have kc1 := cell_regrown c1
  have hMay : ∀ w, Calls Try.prog 9 #[.agg #[.int .i64 AX, .int .i64 AY]] w fun e w' => e = .returned (.bool true) ∧ Below w.heap.size w w' := fun w => by
    have := May_any AX AY w
    rwa [mA] at this
  have cM := fun d os => Calls.regrown_of (hMay (grow (redrawn w4 d) os))
  clear hMay
  have cD := fun (x y x' y' : Int) d os => Calls.regrown_of (Dist_any x y x' y' (grow (redrawn w4 d) os))
  go_wp2_with fail
  cases t1 : (AX == BX)
  · have t0 : (distV (AX, AY) (BX, BY) == 0) = false := by
      rw [beq_eq_false_iff_ne] at t1 ⊢
      intro h
      exact t1 (hz.1 h).1
    clear hz

    refine wp_region_quiet_below (by kernel_rfl) (by kernel_rfl) ?_
    repeat (go_big_quiet_step (first | exact cM _ _ | exact cD _ _ _ _ _ _))
    refine wpQuiet_nil ?_
    intro _ hw'
    obtain ⟨⟨dq, osq⟩, hw''⟩ := hw'
    subst hw''
    have hE := hBB.trans ((below_regrown w4 dq osq).mono hBB.size)
    clear cM cD ka0 ka1 kb0 kb1 kc0 kc1
    go_wp2
    go_ret
    exact ⟨rfl, hE⟩
  · cases t2 : (AY == BY)
    · have t0 : (distV (AX, AY) (BX, BY) == 0) = false := by
        rw [beq_eq_false_iff_ne] at t2 ⊢
        intro h
        exact t2 (hz.1 h).2
      clear hz

      refine wp_region_quiet_below (by kernel_rfl) (by kernel_rfl) ?_
      repeat (go_big_quiet_step (first | exact cM _ _ | exact cD _ _ _ _ _ _))
      refine wpQuiet_nil ?_
      intro _ hw'
      obtain ⟨⟨dq, osq⟩, hw''⟩ := hw'
      subst hw''
      have hE := hBB.trans ((below_regrown w4 dq osq).mono hBB.size)
      clear cM cD ka0 ka1 kb0 kb1 kc0 kc1
      go_wp2
      go_ret
      exact ⟨rfl, hE⟩
    · have t0 : (distV (AX, AY) (BX, BY) == 0) = true := by
        rw [beq_iff_eq] at t1 t2 ⊢
        exact hz.2 ⟨t1, t2⟩
      clear hz

      refine wp_region_quiet_below (by kernel_rfl) (by kernel_rfl) ?_
      repeat (go_big_quiet_step (first | exact cM _ _ | exact cD _ _ _ _ _ _))
      refine wpQuiet_nil ?_
      intro _ hw'
      obtain ⟨⟨dq, osq⟩, hw''⟩ := hw'
      subst hw''
      have hE := hBB.trans ((below_regrown w4 dq osq).mono hBB.size)
      clear cM cD ka0 ka1 kb0 kb1 kc0 kc1
      go_wp2
      go_ret
      exact ⟨rfl, hE⟩

set_option maxRecDepth 100000 in
theorem lifted (os : Os) (started : os.Started) (H : Type) (enc : TypeId × Value → H) :
    ReturnsInHanded {} Try.checked os 5 .any (Rows.placeMetricSpec.pre6 enc Try.prog Try.f5 Rows.placeMetricRow.domain false) (Rows.placeMetricSpec.post enc Try.prog Try.f5 false true false false) := by
  refine returnsInHanded_of_change (C := Try.checked) own started (by kernel_rfl) Try.func5
    (ChangeSpec.witness6 (enc := enc) (C := Try.checked) false ⟨#[], #[.agg #[.int .i64 0, .int .i64 0], .agg #[.int .i64 0, .int .i64 0], .agg #[.int .i64 0, .int .i64 0]], []⟩ 8 (by kernel_rfl) (by kernel_rfl) (by kernel_rfl) (by kernel_rfl)) ?_
  intro W base args ds gs before hval0 hW hcnd _
  have hval : ∀ (j : Nat) t v, Try.f5.params[j]? = some t → args[j]? = some v → Value.okWide Try.prog W .any base t v := hval0
  have hW' := hW
  obtain ⟨p, q, hA0, hV, rfl, hfz, hnd⟩ := hW
  have hA : DataW.TrodAll enc Try.prog W 0 (fun _ => true) true Try.f5.params.toList args.toList ds p := hA0
  rw [Try.params5] at hA hval
  obtain ⟨v0, vs0, d0, ds0, p0, q0, hargs, rfl, rfl, h0, r0⟩ := trodAll_cons hA
  obtain ⟨v1, vs1, d1, ds1, p1, q1, rfl, rfl, rfl, h1, r1⟩ := trodAll_cons r0
  obtain ⟨v2, vs2, d2, ds2, p2, q2, rfl, rfl, rfl, h2, r2⟩ := trodAll_cons r1
  obtain ⟨rfl, rfl, rfl⟩ := trodAll_nil r2
  obtain rfl : args = #[v0, v1, v2] := by cases args; simp_all
  obtain ⟨rfl, rfl⟩ := trodVars_none hV
  obtain ⟨x0, y0, rfl, wx0, wy0⟩ := openPlace (hval 0 23 v0 rfl rfl) h0
  obtain ⟨x1, y1, rfl, wx1, wy1⟩ := openPlace (hval 1 23 v1 rfl rfl) h1
  obtain ⟨x2, y2, rfl, wx2, wy2⟩ := openPlace (hval 2 23 v2 rfl rfl) h2
  exact (walk x0 y0 x1 y1 x2 y2 W).mono fun e W' ⟨he, hb⟩ => ⟨_, he, Close.law_post laidOut (by kernel_rfl) rfl (by kernel_rfl) Try.underlying4 hW' rfl hb⟩

theorem over : Rows.placeMetricRow.holds Try.pinned (OpenSpec.ofChange Rows.placeMetricSpec) :=
  OpenClaim.holds_of_wide 5 Try.f5 rfl rfl rfl rfl rfl rfl rfl ⟨rfl, rfl, rfl, rfl, rfl⟩ rfl rfl rfl rfl rfl (by kernel_rfl) Try.func5 (by kernel_rfl)
    (of_decide_eq_true (by kernel_rfl)) (by unfold Func.isWrapper; first | (rw [if_pos (by decide +kernel)]; kernel_rfl) | (rw [if_neg (by decide +kernel)]; exact ⟨rfl, rfl⟩))
    (fun os started H enc _ => lifted os started H enc)

theorem proved : Rows.PlaceMetricSaid := over
#print axioms proved

end Go.Proofs.Ytjojdfbjecbhnaa.placeMetric
