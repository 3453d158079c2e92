/-
  Contracts of package order's 'Tight', and of what answers the same by definition.
-/
import Derived.Test.YtcdgfjfomiokmaaOrderTighten
namespace Go.Proofs.Ytcdgfjfomiokmaa.Order
open Go.RowKit Go.Sort Go.Proofs.Ytcdgfjfomiokmaa.Mem Go.Proofs.Ytcdgfjfomiokmaa.Place Go.Proofs.Ytcdgfjfomiokmaa.Window
set_option linter.unusedVariables false

set_option maxHeartbeats 4000000 in
theorem Tight_any (fx fy tx ty pe pl de dl ld sv : Int) (w : World) :
    Calls Try.prog 17 #[.agg #[.int .i64 fx, .int .i64 fy, .int .i64 tx, .int .i64 ty, .int .i64 pe, .int .i64 pl, .int .i64 de, .int .i64 dl, .int .i64 ld, .int .i64 sv]] w fun r w' => r = .returned (.tuple #[.agg #[.int .i64 (orNil (tightB fx fy tx ty pe pl de dl ld sv) fx), .int .i64 (orNil (tightB fx fy tx ty pe pl de dl ld sv) fy), .int .i64 (orNil (tightB fx fy tx ty pe pl de dl ld sv) tx), .int .i64 (orNil (tightB fx fy tx ty pe pl de dl ld sv) ty), .int .i64 (orNil (tightB fx fy tx ty pe pl de dl ld sv) pe), .int .i64 (orNil (tightB fx fy tx ty pe pl de dl ld sv) (tightL fx fy tx ty pe pl de dl ld sv)), .int .i64 (orNil (tightB fx fy tx ty pe pl de dl ld sv) (tightE fx fy tx ty pe pl de dl ld sv)), .int .i64 (orNil (tightB fx fy tx ty pe pl de dl ld sv) dl), .int .i64 (orNil (tightB fx fy tx ty pe pl de dl ld sv) ld), .int .i64 (orNil (tightB fx fy tx ty pe pl de dl ld sv) sv)], .bool (tightB fx fy tx ty pe pl de dl ld sv)]) ∧ Below w.heap.size w w' := by
  have hS : At ((w.alloc (.cells #[.int .i64 fx, .int .i64 fy, .int .i64 tx, .int .i64 ty, .int .i64 pe, .int .i64 pl, .int .i64 de, .int .i64 dl, .int .i64 ld, .int .i64 sv] 27)).alloc (.cells #[.int .i64 0, .int .i64 0, .int .i64 0, .int .i64 0, .int .i64 0, .int .i64 0, .int .i64 0, .int .i64 0, .int .i64 0, .int .i64 0] 27)) (w.heap.size + 1) 27 #[.int .i64 0, .int .i64 0, .int .i64 0, .int .i64 0, .int .i64 0, .int .i64 0, .int .i64 0, .int .i64 0, .int .i64 0, .int .i64 0] := At.new_ _ _ _ (by simp)
  have hB : Below w.heap.size w ((w.alloc (.cells #[.int .i64 fx, .int .i64 fy, .int .i64 tx, .int .i64 ty, .int .i64 pe, .int .i64 pl, .int .i64 de, .int .i64 dl, .int .i64 ld, .int .i64 sv] 27)).alloc (.cells #[.int .i64 0, .int .i64 0, .int .i64 0, .int .i64 0, .int .i64 0, .int .i64 0, .int .i64 0, .int .i64 0, .int .i64 0, .int .i64 0] 27)) := ((Below.refl _ _).alloc (Nat.le_refl _) _).alloc (by simp) _
  cases hT : tightB fx fy tx ty pe pl de dl ld sv
  · have cT : ∀ w, Calls Try.prog 35 #[.agg #[.int .i64 fx, .int .i64 fy, .int .i64 tx, .int .i64 ty, .int .i64 pe, .int .i64 pl, .int .i64 de, .int .i64 dl, .int .i64 ld, .int .i64 sv]] w fun r w' => r = .returned (.agg #[.int .i64 0, .int .i64 0, .int .i64 0, .int .i64 0, .int .i64 0, .int .i64 0, .int .i64 0, .int .i64 0, .int .i64 0, .int .i64 0]) ∧ Below w.heap.size w w' := fun w => by have h := tightened_any fx fy tx ty pe pl de dl ld sv w; rw [hT] at h; exact h
    simp only [orNil_f]
    clear hT
    go_enter Try.func17, Try.ntmps17
    go_wp2_with fail
    generalize ((w.alloc (.cells #[.int .i64 fx, .int .i64 fy, .int .i64 tx, .int .i64 ty, .int .i64 pe, .int .i64 pl, .int .i64 de, .int .i64 dl, .int .i64 ld, .int .i64 sv] 27)).alloc (.cells #[.int .i64 0, .int .i64 0, .int .i64 0, .int .i64 0, .int .i64 0, .int .i64 0, .int .i64 0, .int .i64 0, .int .i64 0, .int .i64 0] 27)) = w0 at *
    refine (cT _).mono ?_
    rintro e w' ⟨rfl, hb1⟩
    replace hS := hS.keep hb1 hS.inside
    replace hB := hB.trans (hb1.mono hB.size)
    clear hb1
    try clear s0 s1 s2 s3 s4 s5 s6 s7 s8 s9
    have s0 := hS.cell 0
    have s1 := hS.cell 1
    have s2 := hS.cell 2
    have s3 := hS.cell 3
    have s4 := hS.cell 4
    have s5 := hS.cell 5
    have s6 := hS.cell 6
    have s7 := hS.cell 7
    have s8 := hS.cell 8
    have s9 := hS.cell 9
    simp at s0 s1 s2 s3 s4 s5 s6 s7 s8 s9
    have hsz := hS.inside
    go_wp2_with fail
    have hN : At (w'.alloc (.cells #[.int .i64 0, .int .i64 0, .int .i64 0, .int .i64 0, .int .i64 0, .int .i64 0, .int .i64 0, .int .i64 0, .int .i64 0, .int .i64 0] 27)) w'.heap.size 27 #[.int .i64 0, .int .i64 0, .int .i64 0, .int .i64 0, .int .i64 0, .int .i64 0, .int .i64 0, .int .i64 0, .int .i64 0, .int .i64 0] := At.new w' _ _
    replace hS := hS.alloc (.cells #[.int .i64 0, .int .i64 0, .int .i64 0, .int .i64 0, .int .i64 0, .int .i64 0, .int .i64 0, .int .i64 0, .int .i64 0, .int .i64 0] 27)
    replace hB := hB.alloc hB.size (.cells #[.int .i64 0, .int .i64 0, .int .i64 0, .int .i64 0, .int .i64 0, .int .i64 0, .int .i64 0, .int .i64 0, .int .i64 0, .int .i64 0] 27)
    generalize hnn : w'.heap.size = nn at *
    generalize (w'.alloc (.cells #[.int .i64 0, .int .i64 0, .int .i64 0, .int .i64 0, .int .i64 0, .int .i64 0, .int .i64 0, .int .i64 0, .int .i64 0, .int .i64 0] 27)) = w1 at *
    clear s0 s1 s2 s3 s4 s5 s6 s7 s8 s9
    have s0 := hS.cell 0
    have s1 := hS.cell 1
    have s2 := hS.cell 2
    have s3 := hS.cell 3
    have s4 := hS.cell 4
    have s5 := hS.cell 5
    have s6 := hS.cell 6
    have s7 := hS.cell 7
    have s8 := hS.cell 8
    have s9 := hS.cell 9
    simp at s0 s1 s2 s3 s4 s5 s6 s7 s8 s9
    have n0 := hN.cell 0
    have n1 := hN.cell 1
    have n2 := hN.cell 2
    have n3 := hN.cell 3
    have n4 := hN.cell 4
    have n5 := hN.cell 5
    have n6 := hN.cell 6
    have n7 := hN.cell 7
    have n8 := hN.cell 8
    have n9 := hN.cell 9
    simp at n0 n1 n2 n3 n4 n5 n6 n7 n8 n9
    have hf := hS.free
    go_region
    all_goals
      go_wp2
      refine bodyPost_ret (res_rqb rfl rfl rfl (b := .bool false) (x0 := .int .i64 0) (x1 := .int .i64 0) (x2 := .int .i64 0) (x3 := .int .i64 0) (x4 := .int .i64 0) (x5 := .int .i64 0) (x6 := .int .i64 0) (x7 := .int .i64 0) (x8 := .int .i64 0) (x9 := .int .i64 0) (by exact (put10 hS).drew)) rfl ?_
      exact ⟨rfl, by repeat (first | with_reducible refine Below.drew ?_ | with_reducible refine Below.setCell ?_ (by simp <;> omega) _ | with_reducible exact hB)⟩
  · have hld : 1 ≤ ld := ((chk_iff fx fy tx ty pe pl de dl ld sv).1 ((tightB_iff fx fy tx ty pe pl de dl ld sv).1 hT).1).2.2.1.1
    obtain ⟨L, hL⟩ : ∃ L, tightL fx fy tx ty pe pl de dl ld sv = L := ⟨_, rfl⟩
    obtain ⟨E, hE⟩ : ∃ E, tightE fx fy tx ty pe pl de dl ld sv = E := ⟨_, rfl⟩
    have cT : ∀ w, Calls Try.prog 35 #[.agg #[.int .i64 fx, .int .i64 fy, .int .i64 tx, .int .i64 ty, .int .i64 pe, .int .i64 pl, .int .i64 de, .int .i64 dl, .int .i64 ld, .int .i64 sv]] w fun r w' => r = .returned (.agg #[.int .i64 fx, .int .i64 fy, .int .i64 tx, .int .i64 ty, .int .i64 pe, .int .i64 L, .int .i64 E, .int .i64 dl, .int .i64 ld, .int .i64 sv]) ∧ Below w.heap.size w w' := fun w => by have h := tightened_any fx fy tx ty pe pl de dl ld sv w; rw [hT] at h; simp only [orNil_t] at h; rw [hL, hE] at h; exact h
    simp only [orNil_t]
    rw [hL, hE]
    clear hL hE hT
    have hl0 : (ld == 0) = false := by simp; omega
    go_enter Try.func17, Try.ntmps17
    go_wp2_with fail
    generalize ((w.alloc (.cells #[.int .i64 fx, .int .i64 fy, .int .i64 tx, .int .i64 ty, .int .i64 pe, .int .i64 pl, .int .i64 de, .int .i64 dl, .int .i64 ld, .int .i64 sv] 27)).alloc (.cells #[.int .i64 0, .int .i64 0, .int .i64 0, .int .i64 0, .int .i64 0, .int .i64 0, .int .i64 0, .int .i64 0, .int .i64 0, .int .i64 0] 27)) = w0 at *
    refine (cT _).mono ?_
    rintro e w' ⟨rfl, hb1⟩
    replace hS := hS.keep hb1 hS.inside
    replace hB := hB.trans (hb1.mono hB.size)
    clear hb1
    try clear s0 s1 s2 s3 s4 s5 s6 s7 s8 s9
    have s0 := hS.cell 0
    have s1 := hS.cell 1
    have s2 := hS.cell 2
    have s3 := hS.cell 3
    have s4 := hS.cell 4
    have s5 := hS.cell 5
    have s6 := hS.cell 6
    have s7 := hS.cell 7
    have s8 := hS.cell 8
    have s9 := hS.cell 9
    simp at s0 s1 s2 s3 s4 s5 s6 s7 s8 s9
    have hsz := hS.inside
    go_wp2_with fail
    have hN : At (w'.alloc (.cells #[.int .i64 fx, .int .i64 fy, .int .i64 tx, .int .i64 ty, .int .i64 pe, .int .i64 L, .int .i64 E, .int .i64 dl, .int .i64 ld, .int .i64 sv] 27)) w'.heap.size 27 #[.int .i64 fx, .int .i64 fy, .int .i64 tx, .int .i64 ty, .int .i64 pe, .int .i64 L, .int .i64 E, .int .i64 dl, .int .i64 ld, .int .i64 sv] := At.new w' _ _
    replace hS := hS.alloc (.cells #[.int .i64 fx, .int .i64 fy, .int .i64 tx, .int .i64 ty, .int .i64 pe, .int .i64 L, .int .i64 E, .int .i64 dl, .int .i64 ld, .int .i64 sv] 27)
    replace hB := hB.alloc hB.size (.cells #[.int .i64 fx, .int .i64 fy, .int .i64 tx, .int .i64 ty, .int .i64 pe, .int .i64 L, .int .i64 E, .int .i64 dl, .int .i64 ld, .int .i64 sv] 27)
    generalize hnn : w'.heap.size = nn at *
    generalize (w'.alloc (.cells #[.int .i64 fx, .int .i64 fy, .int .i64 tx, .int .i64 ty, .int .i64 pe, .int .i64 L, .int .i64 E, .int .i64 dl, .int .i64 ld, .int .i64 sv] 27)) = w1 at *
    clear s0 s1 s2 s3 s4 s5 s6 s7 s8 s9
    have s0 := hS.cell 0
    have s1 := hS.cell 1
    have s2 := hS.cell 2
    have s3 := hS.cell 3
    have s4 := hS.cell 4
    have s5 := hS.cell 5
    have s6 := hS.cell 6
    have s7 := hS.cell 7
    have s8 := hS.cell 8
    have s9 := hS.cell 9
    simp at s0 s1 s2 s3 s4 s5 s6 s7 s8 s9
    have n0 := hN.cell 0
    have n1 := hN.cell 1
    have n2 := hN.cell 2
    have n3 := hN.cell 3
    have n4 := hN.cell 4
    have n5 := hN.cell 5
    have n6 := hN.cell 6
    have n7 := hN.cell 7
    have n8 := hN.cell 8
    have n9 := hN.cell 9
    simp at n0 n1 n2 n3 n4 n5 n6 n7 n8 n9
    have hf := hS.free
    go_region
    all_goals
      go_wp2
      refine bodyPost_ret (res_rqb rfl rfl rfl (b := .bool true) (x0 := .int .i64 fx) (x1 := .int .i64 fy) (x2 := .int .i64 tx) (x3 := .int .i64 ty) (x4 := .int .i64 pe) (x5 := .int .i64 L) (x6 := .int .i64 E) (x7 := .int .i64 dl) (x8 := .int .i64 ld) (x9 := .int .i64 sv) (by exact (put10 hS).drew)) rfl ?_
      exact ⟨rfl, by repeat (first | with_reducible refine Below.drew ?_ | with_reducible refine Below.setCell ?_ (by simp <;> omega) _ | with_reducible exact hB)⟩

set_option maxHeartbeats 4000000 in
theorem refTight_any (fx fy tx ty pe pl de dl ld sv : Int) (w : World) :
    Calls Try.prog 18 #[.agg #[.int .i64 fx, .int .i64 fy, .int .i64 tx, .int .i64 ty, .int .i64 pe, .int .i64 pl, .int .i64 de, .int .i64 dl, .int .i64 ld, .int .i64 sv]] w fun r w' => r = .returned (.tuple #[.agg #[.int .i64 (orNil (tightB fx fy tx ty pe pl de dl ld sv) fx), .int .i64 (orNil (tightB fx fy tx ty pe pl de dl ld sv) fy), .int .i64 (orNil (tightB fx fy tx ty pe pl de dl ld sv) tx), .int .i64 (orNil (tightB fx fy tx ty pe pl de dl ld sv) ty), .int .i64 (orNil (tightB fx fy tx ty pe pl de dl ld sv) pe), .int .i64 (orNil (tightB fx fy tx ty pe pl de dl ld sv) (tightL fx fy tx ty pe pl de dl ld sv)), .int .i64 (orNil (tightB fx fy tx ty pe pl de dl ld sv) (tightE fx fy tx ty pe pl de dl ld sv)), .int .i64 (orNil (tightB fx fy tx ty pe pl de dl ld sv) dl), .int .i64 (orNil (tightB fx fy tx ty pe pl de dl ld sv) ld), .int .i64 (orNil (tightB fx fy tx ty pe pl de dl ld sv) sv)], .bool (tightB fx fy tx ty pe pl de dl ld sv)]) ∧ Below w.heap.size w w' := by
  have hP : At ((w.alloc (.cells #[.int .i64 fx, .int .i64 fy, .int .i64 tx, .int .i64 ty, .int .i64 pe, .int .i64 pl, .int .i64 de, .int .i64 dl, .int .i64 ld, .int .i64 sv] 27)).alloc (.cells #[.int .i64 0, .int .i64 0, .int .i64 0, .int .i64 0, .int .i64 0, .int .i64 0, .int .i64 0, .int .i64 0, .int .i64 0, .int .i64 0] 27)) w.heap.size 27 #[.int .i64 fx, .int .i64 fy, .int .i64 tx, .int .i64 ty, .int .i64 pe, .int .i64 pl, .int .i64 de, .int .i64 dl, .int .i64 ld, .int .i64 sv] := (At.new w _ _).alloc _
  have hS : At ((w.alloc (.cells #[.int .i64 fx, .int .i64 fy, .int .i64 tx, .int .i64 ty, .int .i64 pe, .int .i64 pl, .int .i64 de, .int .i64 dl, .int .i64 ld, .int .i64 sv] 27)).alloc (.cells #[.int .i64 0, .int .i64 0, .int .i64 0, .int .i64 0, .int .i64 0, .int .i64 0, .int .i64 0, .int .i64 0, .int .i64 0, .int .i64 0] 27)) (w.heap.size + 1) 27 #[.int .i64 0, .int .i64 0, .int .i64 0, .int .i64 0, .int .i64 0, .int .i64 0, .int .i64 0, .int .i64 0, .int .i64 0, .int .i64 0] := At.new_ _ _ _ (by simp)
  have hB : Below w.heap.size w ((w.alloc (.cells #[.int .i64 fx, .int .i64 fy, .int .i64 tx, .int .i64 ty, .int .i64 pe, .int .i64 pl, .int .i64 de, .int .i64 dl, .int .i64 ld, .int .i64 sv] 27)).alloc (.cells #[.int .i64 0, .int .i64 0, .int .i64 0, .int .i64 0, .int .i64 0, .int .i64 0, .int .i64 0, .int .i64 0, .int .i64 0, .int .i64 0] 27)) := ((Below.refl _ _).alloc (Nat.le_refl _) _).alloc (by simp) _
  obtain ⟨C, hC⟩ : ∃ C, chk fx fy tx ty pe pl de dl ld sv = C := ⟨_, rfl⟩
  have cC : ∀ w, Calls Try.prog 11 #[.agg #[.int .i64 fx, .int .i64 fy, .int .i64 tx, .int .i64 ty, .int .i64 pe, .int .i64 pl, .int .i64 de, .int .i64 dl, .int .i64 ld, .int .i64 sv]] w fun r w' => r = .returned (.int .i64 C) ∧ Below w.heap.size w w' := fun w => by rw [← hC]; exact refCheck_any fx fy tx ty pe pl de dl ld sv w
  by_cases h1 : C = 0
  · subst h1
    have hc := (chk_iff fx fy tx ty pe pl de dl ld sv).1 hC
    obtain ⟨_, ⟨hok1, hok2⟩, _, hs1, hs2⟩ := hc
    have b1 := apV_bd (fx := fx) (fy := fy) (tx := tx) (ty := ty) (pe := pe) (pl := pl) (de := de) (dl := dl) (ld := ld) (sv := sv) ⟨hs1, hs2⟩
    have o1 := (okB_iff _ _).1 hok1
    have o2 := (okB_iff _ _).1 hok2
    obtain ⟨o11, o12, o13⟩ := o1
    obtain ⟨o21, o22, o23⟩ := o2
    obtain ⟨D, hD⟩ : ∃ D, distV (fx, fy) (tx, ty) = D := ⟨_, rfl⟩
    have b2 := distV_bd (fx, fy) (tx, ty)
    have hA : apV fx fy tx ty pe pl de dl ld sv = sv + D := by unfold apV; rw [hD]
    rw [hD] at b2
    have cD : ∀ w, Calls Try.prog 34 #[.agg #[.int .i64 fx, .int .i64 fy], .agg #[.int .i64 tx, .int .i64 ty]] w fun r w' => r = .returned (.int .i64 D) ∧ Below w.heap.size w w' := fun w => by rw [← hD]; exact refDist_any _ _ _ _ w
    obtain ⟨b1l, b1h⟩ := b1
    obtain ⟨b2l, b2h⟩ := b2
    by_cases hT : pe + apV fx fy tx ty pe pl de dl ld sv ≤ dl
    · have hTB : tightB fx fy tx ty pe pl de dl ld sv = true := (tightB_iff fx fy tx ty pe pl de dl ld sv).2 ⟨hC, hT⟩
      rw [hTB]
      simp only [orNil_t, tightL, tightE]
      rw [hA] at b1l b1h hT ⊢
      obtain ⟨L, hL⟩ : ∃ L, min pl (dl - (sv + D)) = L := ⟨_, rfl⟩
      obtain ⟨E, hE⟩ : ∃ E, max de (pe + (sv + D)) = E := ⟨_, rfl⟩
      rw [hL, hE]
      have q1 : E ≤ dl := by omega
      have q2 : pe ≤ L := by omega
      clear hTB hC hD hA hok1 hok2
      go_enter Try.func18, Try.ntmps18
      go_wp2_with fail
      generalize ((w.alloc (.cells #[.int .i64 fx, .int .i64 fy, .int .i64 tx, .int .i64 ty, .int .i64 pe, .int .i64 pl, .int .i64 de, .int .i64 dl, .int .i64 ld, .int .i64 sv] 27)).alloc (.cells #[.int .i64 0, .int .i64 0, .int .i64 0, .int .i64 0, .int .i64 0, .int .i64 0, .int .i64 0, .int .i64 0, .int .i64 0, .int .i64 0] 27)) = w0 at *
      refine (cC _).mono ?_
      rintro e w' ⟨rfl, hb1⟩
      replace hP := hP.keep hb1 hP.inside
      replace hS := hS.keep hb1 hS.inside
      replace hB := hB.trans (hb1.mono hB.size)
      clear hb1
      try clear c0 c1 c2 c3 c4 c5 c6 c7 c8 c9 s0 s1 s2 s3 s4 s5 s6 s7 s8 s9
      have c0 := hP.cell 0
      have c1 := hP.cell 1
      have c2 := hP.cell 2
      have c3 := hP.cell 3
      have c4 := hP.cell 4
      have c5 := hP.cell 5
      have c6 := hP.cell 6
      have c7 := hP.cell 7
      have c8 := hP.cell 8
      have c9 := hP.cell 9
      simp at c0 c1 c2 c3 c4 c5 c6 c7 c8 c9
      have s0 := hS.cell 0
      have s1 := hS.cell 1
      have s2 := hS.cell 2
      have s3 := hS.cell 3
      have s4 := hS.cell 4
      have s5 := hS.cell 5
      have s6 := hS.cell 6
      have s7 := hS.cell 7
      have s8 := hS.cell 8
      have s9 := hS.cell 9
      simp at s0 s1 s2 s3 s4 s5 s6 s7 s8 s9
      generalize w' = w1 at *
      go_wp2_with fail
      have kc0 := cell_regrown c0
      have kc1 := cell_regrown c1
      have kc2 := cell_regrown c2
      have kc3 := cell_regrown c3
      have kc4 := cell_regrown c4
      have kc5 := cell_regrown c5
      have kc6 := cell_regrown c6
      have kc7 := cell_regrown c7
      have kc8 := cell_regrown c8
      have kc9 := cell_regrown c9
      have kD := fun d os => Calls.regrown_of (cD (grow (redrawn w1 d) os))
      refine wp_region_quiet_below (by kernel_rfl) (by kernel_rfl) ?_
      repeat (go_big_quiet_step (with_reducible exact kD _ _))
      refine wpQuiet_nil ?_
      intro _ hw'
      obtain ⟨⟨dq, osq⟩, hw''⟩ := hw'
      subst hw''
      replace hB := hB.trans ((below_regrown w1 dq osq).mono hB.size)
      replace hP := hP.keep (below_regrown w1 dq osq) hP.inside
      replace hS := hS.keep (below_regrown w1 dq osq) hS.inside
      generalize grow (redrawn w1 dq) osq = w2 at *
      clear kD kc0 kc1 kc2 kc3 kc4 kc5 kc6 kc7 kc8 kc9 c0 c1 c2 c3 c4 c5 c6 c7 c8 c9 s0 s1 s2 s3 s4 s5 s6 s7 s8 s9
      have c0 := hP.cell 0
      have c1 := hP.cell 1
      have c2 := hP.cell 2
      have c3 := hP.cell 3
      have c4 := hP.cell 4
      have c5 := hP.cell 5
      have c6 := hP.cell 6
      have c7 := hP.cell 7
      have c8 := hP.cell 8
      have c9 := hP.cell 9
      simp at c0 c1 c2 c3 c4 c5 c6 c7 c8 c9
      have s0 := hS.cell 0
      have s1 := hS.cell 1
      have s2 := hS.cell 2
      have s3 := hS.cell 3
      have s4 := hS.cell 4
      have s5 := hS.cell 5
      have s6 := hS.cell 6
      have s7 := hS.cell 7
      have s8 := hS.cell 8
      have s9 := hS.cell 9
      simp at s0 s1 s2 s3 s4 s5 s6 s7 s8 s9
      have hf := hS.free
      have hg := hP.free
      go_wp2
      refine bodyPost_ret (res_rqb rfl rfl rfl (b := .bool true) (x0 := .int .i64 fx) (x1 := .int .i64 fy) (x2 := .int .i64 tx) (x3 := .int .i64 ty) (x4 := .int .i64 pe) (x5 := .int .i64 L) (x6 := .int .i64 E) (x7 := .int .i64 dl) (x8 := .int .i64 ld) (x9 := .int .i64 sv) (by exact put10 ((hS.far (by omega) 6 _).far (by omega) 5 _))) rfl ?_
      exact ⟨rfl, by repeat (first | with_reducible refine Below.setCell ?_ (by simp <;> omega) _ | with_reducible exact hB)⟩
    · have hTB : tightB fx fy tx ty pe pl de dl ld sv = false := (tightB_no fx fy tx ty pe pl de dl ld sv).2 (fun h => hT h.2)
      rw [hTB]
      simp only [orNil_f]
      rw [hA] at b1l b1h hT
      obtain ⟨L, hL⟩ : ∃ L, min pl (dl - (sv + D)) = L := ⟨_, rfl⟩
      obtain ⟨E, hE⟩ : ∃ E, max de (pe + (sv + D)) = E := ⟨_, rfl⟩
      have q1 : ¬ E ≤ dl := by omega
      clear hTB hC hD hA hok1 hok2
      go_enter Try.func18, Try.ntmps18
      go_wp2_with fail
      generalize ((w.alloc (.cells #[.int .i64 fx, .int .i64 fy, .int .i64 tx, .int .i64 ty, .int .i64 pe, .int .i64 pl, .int .i64 de, .int .i64 dl, .int .i64 ld, .int .i64 sv] 27)).alloc (.cells #[.int .i64 0, .int .i64 0, .int .i64 0, .int .i64 0, .int .i64 0, .int .i64 0, .int .i64 0, .int .i64 0, .int .i64 0, .int .i64 0] 27)) = w0 at *
      refine (cC _).mono ?_
      rintro e w' ⟨rfl, hb1⟩
      replace hP := hP.keep hb1 hP.inside
      replace hS := hS.keep hb1 hS.inside
      replace hB := hB.trans (hb1.mono hB.size)
      clear hb1
      try clear c0 c1 c2 c3 c4 c5 c6 c7 c8 c9 s0 s1 s2 s3 s4 s5 s6 s7 s8 s9
      have c0 := hP.cell 0
      have c1 := hP.cell 1
      have c2 := hP.cell 2
      have c3 := hP.cell 3
      have c4 := hP.cell 4
      have c5 := hP.cell 5
      have c6 := hP.cell 6
      have c7 := hP.cell 7
      have c8 := hP.cell 8
      have c9 := hP.cell 9
      simp at c0 c1 c2 c3 c4 c5 c6 c7 c8 c9
      have s0 := hS.cell 0
      have s1 := hS.cell 1
      have s2 := hS.cell 2
      have s3 := hS.cell 3
      have s4 := hS.cell 4
      have s5 := hS.cell 5
      have s6 := hS.cell 6
      have s7 := hS.cell 7
      have s8 := hS.cell 8
      have s9 := hS.cell 9
      simp at s0 s1 s2 s3 s4 s5 s6 s7 s8 s9
      generalize w' = w1 at *
      go_wp2_with fail
      have kc0 := cell_regrown c0
      have kc1 := cell_regrown c1
      have kc2 := cell_regrown c2
      have kc3 := cell_regrown c3
      have kc4 := cell_regrown c4
      have kc5 := cell_regrown c5
      have kc6 := cell_regrown c6
      have kc7 := cell_regrown c7
      have kc8 := cell_regrown c8
      have kc9 := cell_regrown c9
      have kD := fun d os => Calls.regrown_of (cD (grow (redrawn w1 d) os))
      refine wp_region_quiet_below (by kernel_rfl) (by kernel_rfl) ?_
      repeat (go_big_quiet_step (with_reducible exact kD _ _))
      refine wpQuiet_nil ?_
      intro _ hw'
      obtain ⟨⟨dq, osq⟩, hw''⟩ := hw'
      subst hw''
      replace hB := hB.trans ((below_regrown w1 dq osq).mono hB.size)
      replace hP := hP.keep (below_regrown w1 dq osq) hP.inside
      replace hS := hS.keep (below_regrown w1 dq osq) hS.inside
      generalize grow (redrawn w1 dq) osq = w2 at *
      clear kD kc0 kc1 kc2 kc3 kc4 kc5 kc6 kc7 kc8 kc9 c0 c1 c2 c3 c4 c5 c6 c7 c8 c9 s0 s1 s2 s3 s4 s5 s6 s7 s8 s9
      have c0 := hP.cell 0
      have c1 := hP.cell 1
      have c2 := hP.cell 2
      have c3 := hP.cell 3
      have c4 := hP.cell 4
      have c5 := hP.cell 5
      have c6 := hP.cell 6
      have c7 := hP.cell 7
      have c8 := hP.cell 8
      have c9 := hP.cell 9
      simp at c0 c1 c2 c3 c4 c5 c6 c7 c8 c9
      have s0 := hS.cell 0
      have s1 := hS.cell 1
      have s2 := hS.cell 2
      have s3 := hS.cell 3
      have s4 := hS.cell 4
      have s5 := hS.cell 5
      have s6 := hS.cell 6
      have s7 := hS.cell 7
      have s8 := hS.cell 8
      have s9 := hS.cell 9
      simp at s0 s1 s2 s3 s4 s5 s6 s7 s8 s9
      have hf := hS.free
      have hg := hP.free
      go_wp2
      refine bodyPost_ret (res_rqb rfl rfl rfl (b := .bool false) (x0 := .int .i64 0) (x1 := .int .i64 0) (x2 := .int .i64 0) (x3 := .int .i64 0) (x4 := .int .i64 0) (x5 := .int .i64 0) (x6 := .int .i64 0) (x7 := .int .i64 0) (x8 := .int .i64 0) (x9 := .int .i64 0) (by exact put10 ((hS.far (by omega) 6 _).far (by omega) 5 _))) rfl ?_
      exact ⟨rfl, by repeat (first | with_reducible refine Below.setCell ?_ (by simp <;> omega) _ | with_reducible exact hB)⟩
  · have hTB : tightB fx fy tx ty pe pl de dl ld sv = false := (tightB_no fx fy tx ty pe pl de dl ld sv).2 (fun h => h1 (hC.symm.trans h.1))
    rw [hTB]
    simp only [orNil_f]
    clear hTB hC
    go_enter Try.func18, Try.ntmps18
    go_wp2_with fail
    generalize ((w.alloc (.cells #[.int .i64 fx, .int .i64 fy, .int .i64 tx, .int .i64 ty, .int .i64 pe, .int .i64 pl, .int .i64 de, .int .i64 dl, .int .i64 ld, .int .i64 sv] 27)).alloc (.cells #[.int .i64 0, .int .i64 0, .int .i64 0, .int .i64 0, .int .i64 0, .int .i64 0, .int .i64 0, .int .i64 0, .int .i64 0, .int .i64 0] 27)) = w0 at *
    refine (cC _).mono ?_
    rintro e w' ⟨rfl, hb1⟩
    replace hP := hP.keep hb1 hP.inside
    replace hS := hS.keep hb1 hS.inside
    replace hB := hB.trans (hb1.mono hB.size)
    clear hb1
    try clear c0 c1 c2 c3 c4 c5 c6 c7 c8 c9 s0 s1 s2 s3 s4 s5 s6 s7 s8 s9
    have c0 := hP.cell 0
    have c1 := hP.cell 1
    have c2 := hP.cell 2
    have c3 := hP.cell 3
    have c4 := hP.cell 4
    have c5 := hP.cell 5
    have c6 := hP.cell 6
    have c7 := hP.cell 7
    have c8 := hP.cell 8
    have c9 := hP.cell 9
    simp at c0 c1 c2 c3 c4 c5 c6 c7 c8 c9
    have s0 := hS.cell 0
    have s1 := hS.cell 1
    have s2 := hS.cell 2
    have s3 := hS.cell 3
    have s4 := hS.cell 4
    have s5 := hS.cell 5
    have s6 := hS.cell 6
    have s7 := hS.cell 7
    have s8 := hS.cell 8
    have s9 := hS.cell 9
    simp at s0 s1 s2 s3 s4 s5 s6 s7 s8 s9
    have hf := hS.free
    go_wp2
    refine bodyPost_ret (res_rqb rfl rfl rfl (b := .bool false) (x0 := .int .i64 0) (x1 := .int .i64 0) (x2 := .int .i64 0) (x3 := .int .i64 0) (x4 := .int .i64 0) (x5 := .int .i64 0) (x6 := .int .i64 0) (x7 := .int .i64 0) (x8 := .int .i64 0) (x9 := .int .i64 0) (by exact put10 hS)) rfl ?_
    exact ⟨rfl, by repeat (first | with_reducible refine Below.setCell ?_ (by simp <;> omega) _ | with_reducible exact hB)⟩


end Go.Proofs.Ytcdgfjfomiokmaa.Order
