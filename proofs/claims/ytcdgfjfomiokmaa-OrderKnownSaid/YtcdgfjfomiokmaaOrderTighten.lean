/-
  Contracts of package order's 'tightened' and 'Tight'.
-/
import Derived.Test.YtcdgfjfomiokmaaOrderTights
import Derived.Test.YtcdgfjfomiokmaaLead
namespace Go.Proofs.Ytcdgfjfomiokmaa.Order
open Go.RowKit Go.Sort Go.Proofs.Ytcdgfjfomiokmaa.Mem Go.Proofs.Ytcdgfjfomiokmaa.Place Go.Proofs.Ytcdgfjfomiokmaa.Window Go.Proofs.Ytcdgfjfomiokmaa.Lead
set_option linter.unusedVariables false

/-- What both windows' meetings come to. -/
theorem meets_yes {pe pl de dl A : Int} (h1 : okB pe pl = true) (h2 : okB de dl = true) (hA : 0 ≤ A) (h : pe + A ≤ dl) :
    (meetB pe pl 0 (dl - A) = true ∧ meetE pe pl 0 (dl - A) = pe ∧ meetL pe pl 0 (dl - A) = min pl (dl - A)) ∧ meetB de dl (pe + A) 1048576 = true ∧ meetE de dl (pe + A) 1048576 = max de (pe + A) ∧ meetL de dl (pe + A) 1048576 = dl := by
  rw [okB_iff] at h1 h2
  have m1 : meetB pe pl 0 (dl - A) = true := by rw [meetB_iff]; omega
  have m2 : meetB de dl (pe + A) 1048576 = true := by rw [meetB_iff]; omega
  unfold meetE meetL
  rw [m1, m2]
  simp only [orNil_t]
  refine ⟨⟨trivial, ?_, trivial⟩, trivial, trivial, ?_⟩ <;> omega
theorem meets_no {pe pl de dl A : Int} (h1 : okB pe pl = true) (h2 : okB de dl = true) (hA : 0 ≤ A) (h : ¬ pe + A ≤ dl) :
    (meetB pe pl 0 (dl - A) = false ∧ meetE pe pl 0 (dl - A) = 0 ∧ meetL pe pl 0 (dl - A) = 0) ∧ meetB de dl (pe + A) 1048576 = false ∧ meetE de dl (pe + A) 1048576 = 0 ∧ meetL de dl (pe + A) 1048576 = 0 := by
  rw [okB_iff] at h1 h2
  have m1 : meetB pe pl 0 (dl - A) = false := by rw [← Bool.not_eq_true, meetB_iff]; omega
  have m2 : meetB de dl (pe + A) 1048576 = false := by rw [← Bool.not_eq_true, meetB_iff]; omega
  unfold meetE meetL
  rw [m1, m2]
  exact ⟨⟨rfl, rfl, rfl⟩, rfl, rfl, rfl⟩

theorem ret_rq {k : IntKind} {a0 a1 a2 a3 a4 a5 a6 a7 a8 a9 b0 b1 b2 b3 b4 b5 b6 b7 b8 b9 : Int} (h0 : a0 = b0) (h1 : a1 = b1) (h2 : a2 = b2) (h3 : a3 = b3) (h4 : a4 = b4) (h5 : a5 = b5) (h6 : a6 = b6) (h7 : a7 = b7) (h8 : a8 = b8) (h9 : a9 = b9) :
    Ending.returned (.agg #[.int k a0, .int k a1, .int k a2, .int k a3, .int k a4, .int k a5, .int k a6, .int k a7, .int k a8, .int k a9]) = .returned (.agg #[.int k b0, .int k b1, .int k b2, .int k b3, .int k b4, .int k b5, .int k b6, .int k b7, .int k b8, .int k b9]) := by
  rw [h0, h1, h2, h3, h4, h5, h6, h7, h8, h9]
theorem ret_rqb {k : IntKind} {a0 a1 a2 a3 a4 a5 a6 a7 a8 a9 b0 b1 b2 b3 b4 b5 b6 b7 b8 b9 : Int} {c d : Bool} (h0 : a0 = b0) (h1 : a1 = b1) (h2 : a2 = b2) (h3 : a3 = b3) (h4 : a4 = b4) (h5 : a5 = b5) (h6 : a6 = b6) (h7 : a7 = b7) (h8 : a8 = b8) (h9 : a9 = b9) (hc : c = d) :
    Ending.returned (.tuple #[.agg #[.int k a0, .int k a1, .int k a2, .int k a3, .int k a4, .int k a5, .int k a6, .int k a7, .int k a8, .int k a9], .bool c]) = .returned (.tuple #[.agg #[.int k b0, .int k b1, .int k b2, .int k b3, .int k b4, .int k b5, .int k b6, .int k b7, .int k b8, .int k b9], .bool d]) := by
  rw [h0, h1, h2, h3, h4, h5, h6, h7, h8, h9, hc]

set_option maxHeartbeats 8000000 in
theorem tightened_any (fx fy tx ty pe pl de dl ld sv : Int) (w : World) :
    Calls Try.prog 35 #[.agg #[.int .i64 fx, .int .i64 fy, .int .i64 tx, .int .i64 ty, .int .i64 pe, .int .i64 pl, .int .i64 de, .int .i64 dl, .int .i64 ld, .int .i64 sv]] w fun r w' => r = .returned (.agg #[.int .i64 (orNil (tightB fx fy tx ty pe pl de dl ld sv) fx), .int .i64 (orNil (tightB fx fy tx ty pe pl de dl ld sv) fy), .int .i64 (orNil (tightB fx fy tx ty pe pl de dl ld sv) tx), .int .i64 (orNil (tightB fx fy tx ty pe pl de dl ld sv) ty), .int .i64 (orNil (tightB fx fy tx ty pe pl de dl ld sv) pe), .int .i64 (orNil (tightB fx fy tx ty pe pl de dl ld sv) (tightL fx fy tx ty pe pl de dl ld sv)), .int .i64 (orNil (tightB fx fy tx ty pe pl de dl ld sv) (tightE fx fy tx ty pe pl de dl ld sv)), .int .i64 (orNil (tightB fx fy tx ty pe pl de dl ld sv) dl), .int .i64 (orNil (tightB fx fy tx ty pe pl de dl ld sv) ld), .int .i64 (orNil (tightB fx fy tx ty pe pl de dl ld sv) sv)]) ∧ Below w.heap.size w w' := by
  have hP : At ((w.alloc (.cells #[.int .i64 fx, .int .i64 fy, .int .i64 tx, .int .i64 ty, .int .i64 pe, .int .i64 pl, .int .i64 de, .int .i64 dl, .int .i64 ld, .int .i64 sv] 27)).alloc (.cells #[.int .i64 0, .int .i64 0, .int .i64 0, .int .i64 0, .int .i64 0, .int .i64 0, .int .i64 0, .int .i64 0, .int .i64 0, .int .i64 0] 27)) w.heap.size 27 #[.int .i64 fx, .int .i64 fy, .int .i64 tx, .int .i64 ty, .int .i64 pe, .int .i64 pl, .int .i64 de, .int .i64 dl, .int .i64 ld, .int .i64 sv] := (At.new w _ _).alloc _
  have hS : At ((w.alloc (.cells #[.int .i64 fx, .int .i64 fy, .int .i64 tx, .int .i64 ty, .int .i64 pe, .int .i64 pl, .int .i64 de, .int .i64 dl, .int .i64 ld, .int .i64 sv] 27)).alloc (.cells #[.int .i64 0, .int .i64 0, .int .i64 0, .int .i64 0, .int .i64 0, .int .i64 0, .int .i64 0, .int .i64 0, .int .i64 0, .int .i64 0] 27)) (w.heap.size + 1) 27 #[.int .i64 0, .int .i64 0, .int .i64 0, .int .i64 0, .int .i64 0, .int .i64 0, .int .i64 0, .int .i64 0, .int .i64 0, .int .i64 0] := At.new_ _ _ _ (by simp)
  have hB : Below w.heap.size w ((w.alloc (.cells #[.int .i64 fx, .int .i64 fy, .int .i64 tx, .int .i64 ty, .int .i64 pe, .int .i64 pl, .int .i64 de, .int .i64 dl, .int .i64 ld, .int .i64 sv] 27)).alloc (.cells #[.int .i64 0, .int .i64 0, .int .i64 0, .int .i64 0, .int .i64 0, .int .i64 0, .int .i64 0, .int .i64 0, .int .i64 0, .int .i64 0] 27)) := ((Below.refl _ _).alloc (Nat.le_refl _) _).alloc (by simp) _
  obtain ⟨C, hC⟩ : ∃ C, chk fx fy tx ty pe pl de dl ld sv = C := ⟨_, rfl⟩
  have cC : ∀ w, Calls Try.prog 10 #[.agg #[.int .i64 fx, .int .i64 fy, .int .i64 tx, .int .i64 ty, .int .i64 pe, .int .i64 pl, .int .i64 de, .int .i64 dl, .int .i64 ld, .int .i64 sv]] w fun r w' => r = .returned (.int .i64 C) ∧ Below w.heap.size w w' := fun w => by rw [← hC]; exact Check_any fx fy tx ty pe pl de dl ld sv w
  by_cases h1 : C = 0
  · subst h1
    have hc := (chk_iff fx fy tx ty pe pl de dl ld sv).1 hC
    obtain ⟨_, ⟨hok1, hok2⟩, _, hs1, hs2⟩ := hc
    have b1 := apV_bd (fx := fx) (fy := fy) (tx := tx) (ty := ty) (pe := pe) (pl := pl) (de := de) (dl := dl) (ld := ld) (sv := sv) ⟨hs1, hs2⟩
    have o1 := (okB_iff _ _).1 hok1
    have o2 := (okB_iff _ _).1 hok2
    obtain ⟨o11, o12, o13⟩ := o1
    obtain ⟨o21, o22, o23⟩ := o2
    by_cases hT : pe + apV fx fy tx ty pe pl de dl ld sv ≤ dl
    · have hTB : tightB fx fy tx ty pe pl de dl ld sv = true := (tightB_iff fx fy tx ty pe pl de dl ld sv).2 ⟨hC, hT⟩
      rw [hTB]
      simp only [orNil_t, tightL, tightE]
      have mm := meets_yes hok1 hok2 b1.1 hT
      obtain ⟨A, hA⟩ : ∃ A, apV fx fy tx ty pe pl de dl ld sv = A := ⟨_, rfl⟩
      rw [hA] at b1 mm ⊢
      obtain ⟨b1l, b1h⟩ := b1
      obtain ⟨⟨m1, m2, m3⟩, m4, m5, m6⟩ := mm
      obtain ⟨L, hL⟩ : ∃ L, min pl (dl - A) = L := ⟨_, rfl⟩
      obtain ⟨E, hE⟩ : ∃ E, max de (pe + A) = E := ⟨_, rfl⟩
      rw [hL] at m3 ⊢
      rw [hE] at m5 ⊢
      have cA : ∀ w, Calls Try.prog 36 #[.agg #[.int .i64 fx, .int .i64 fy, .int .i64 tx, .int .i64 ty, .int .i64 pe, .int .i64 pl, .int .i64 de, .int .i64 dl, .int .i64 ld, .int .i64 sv]] w fun r w' => r = .returned (.int .i64 A) ∧ Below w.heap.size w w' := fun w => by rw [← hA]; exact apart_any fx fy tx ty pe pl de dl ld sv ⟨hs1, hs2⟩ w
      have cM1 : ∀ w, Calls Try.prog 43 #[.agg #[.int .i64 pe, .int .i64 pl], .agg #[.int .i64 0, .int .i64 (dl - A)]] w fun r w' => r = .returned (.tuple #[.agg #[.int .i64 pe, .int .i64 L], .bool true]) ∧ Below w.heap.size w w' := fun w => by have h := Meet_any pe pl 0 (dl - A) w; rwa [m1, m2, m3] at h
      have cM2 : ∀ w, Calls Try.prog 43 #[.agg #[.int .i64 de, .int .i64 dl], .agg #[.int .i64 (pe + A), .int .i64 1048576]] w fun r w' => r = .returned (.tuple #[.agg #[.int .i64 E, .int .i64 dl], .bool true]) ∧ Below w.heap.size w w' := fun w => by have h := Meet_any de dl (pe + A) 1048576 w; rwa [m4, m5, m6] at h
      clear m1 m2 m3 m4 m5 m6 hL hE hA hTB hC hT hok1 hok2
      go_enter Try.func35, Try.ntmps35
      go_wp2_with fail
      generalize ((w.alloc (.cells #[.int .i64 fx, .int .i64 fy, .int .i64 tx, .int .i64 ty, .int .i64 pe, .int .i64 pl, .int .i64 de, .int .i64 dl, .int .i64 ld, .int .i64 sv] 27)).alloc (.cells #[.int .i64 0, .int .i64 0, .int .i64 0, .int .i64 0, .int .i64 0, .int .i64 0, .int .i64 0, .int .i64 0, .int .i64 0, .int .i64 0] 27)) = w0 at *
      refine (cC _).mono ?_
      rintro e w' ⟨rfl, hb1⟩
      replace hP := hP.keep hb1 hP.inside
      replace hS := hS.keep hb1 hS.inside
      replace hB := hB.trans (hb1.mono hB.size)
      clear hb1
      try clear c0 c1 c2 c3 c4 c5 c6 c7 c8 c9 s0 s1 s2 s3 s4 s5 s6 s7 s8 s9
      have c0 := hP.cell 0
      have c1 := hP.cell 1
      have c2 := hP.cell 2
      have c3 := hP.cell 3
      have c4 := hP.cell 4
      have c5 := hP.cell 5
      have c6 := hP.cell 6
      have c7 := hP.cell 7
      have c8 := hP.cell 8
      have c9 := hP.cell 9
      simp at c0 c1 c2 c3 c4 c5 c6 c7 c8 c9
      have s0 := hS.cell 0
      have s1 := hS.cell 1
      have s2 := hS.cell 2
      have s3 := hS.cell 3
      have s4 := hS.cell 4
      have s5 := hS.cell 5
      have s6 := hS.cell 6
      have s7 := hS.cell 7
      have s8 := hS.cell 8
      have s9 := hS.cell 9
      simp at s0 s1 s2 s3 s4 s5 s6 s7 s8 s9
      have hp1 := hP.inside
      have hs1 := hS.inside
      go_wp2_with fail
      replace hP := hP.alloc (.cells #[.int .i64 fx, .int .i64 fy, .int .i64 tx, .int .i64 ty, .int .i64 pe, .int .i64 pl, .int .i64 de, .int .i64 dl, .int .i64 ld, .int .i64 sv] 27)
      replace hS := hS.alloc (.cells #[.int .i64 fx, .int .i64 fy, .int .i64 tx, .int .i64 ty, .int .i64 pe, .int .i64 pl, .int .i64 de, .int .i64 dl, .int .i64 ld, .int .i64 sv] 27)
      have hN := At.new w' 27 #[.int .i64 fx, .int .i64 fy, .int .i64 tx, .int .i64 ty, .int .i64 pe, .int .i64 pl, .int .i64 de, .int .i64 dl, .int .i64 ld, .int .i64 sv]
      replace hB := hB.alloc hB.size (.cells #[.int .i64 fx, .int .i64 fy, .int .i64 tx, .int .i64 ty, .int .i64 pe, .int .i64 pl, .int .i64 de, .int .i64 dl, .int .i64 ld, .int .i64 sv] 27)
      generalize hnn : w'.heap.size = nn at *
      generalize (w'.alloc (.cells #[.int .i64 fx, .int .i64 fy, .int .i64 tx, .int .i64 ty, .int .i64 pe, .int .i64 pl, .int .i64 de, .int .i64 dl, .int .i64 ld, .int .i64 sv] 27)) = w1 at *
      clear c0 c1 c2 c3 c4 c5 c6 c7 c8 c9 s0 s1 s2 s3 s4 s5 s6 s7 s8 s9
      have c0 := hP.cell 0
      have c1 := hP.cell 1
      have c2 := hP.cell 2
      have c3 := hP.cell 3
      have c4 := hP.cell 4
      have c5 := hP.cell 5
      have c6 := hP.cell 6
      have c7 := hP.cell 7
      have c8 := hP.cell 8
      have c9 := hP.cell 9
      simp at c0 c1 c2 c3 c4 c5 c6 c7 c8 c9
      have kc0 := cell_regrown c0
      have kc1 := cell_regrown c1
      have kc2 := cell_regrown c2
      have kc3 := cell_regrown c3
      have kc4 := cell_regrown c4
      have kc5 := cell_regrown c5
      have kc6 := cell_regrown c6
      have kc7 := cell_regrown c7
      have kc8 := cell_regrown c8
      have kc9 := cell_regrown c9
      have kA := fun d os => Calls.regrown_of (cA (grow (redrawn w1 d) os))
      have kM := fun d os => Calls.regrown_of (cM1 (grow (redrawn w1 d) os))
      refine wp_region_below_lead 11 5 (by kernel_rfl) (by kernel_rfl) (by kernel_rfl) ?_
      simp only [List.take_succ_cons, List.take_zero]
      repeat (go_big_quiet_step (first | with_reducible exact kA _ _ | with_reducible exact kM _ _))
      refine wpQuiet_nil ?_
      intro _ hw'
      obtain ⟨⟨dq, osq⟩, hw''⟩ := hw'
      subst hw''
      replace hB := hB.trans ((below_regrown w1 dq osq).mono hB.size)
      replace hP := hP.keep (below_regrown w1 dq osq) hP.inside
      replace hS := hS.keep (below_regrown w1 dq osq) hS.inside
      replace hN := hN.keep (below_regrown w1 dq osq) hN.inside
      generalize grow (redrawn w1 dq) osq = w2 at *
      clear kA kM kc0 kc1 kc2 kc3 kc4 kc5 kc6 kc7 kc8 kc9 c0 c1 c2 c3 c4 c5 c6 c7 c8 c9
      have c0 := hP.cell 0
      have c1 := hP.cell 1
      have c2 := hP.cell 2
      have c3 := hP.cell 3
      have c4 := hP.cell 4
      have c5 := hP.cell 5
      have c6 := hP.cell 6
      have c7 := hP.cell 7
      have c8 := hP.cell 8
      have c9 := hP.cell 9
      simp at c0 c1 c2 c3 c4 c5 c6 c7 c8 c9
      have s0 := hS.cell 0
      have s1 := hS.cell 1
      have s2 := hS.cell 2
      have s3 := hS.cell 3
      have s4 := hS.cell 4
      have s5 := hS.cell 5
      have s6 := hS.cell 6
      have s7 := hS.cell 7
      have s8 := hS.cell 8
      have s9 := hS.cell 9
      simp at s0 s1 s2 s3 s4 s5 s6 s7 s8 s9
      have n0 := hN.cell 0
      have n1 := hN.cell 1
      have n2 := hN.cell 2
      have n3 := hN.cell 3
      have n4 := hN.cell 4
      have n5 := hN.cell 5
      have n6 := hN.cell 6
      have n7 := hN.cell 7
      have n8 := hN.cell 8
      have n9 := hN.cell 9
      simp at n0 n1 n2 n3 n4 n5 n6 n7 n8 n9
      have fn := hN.free
      refine wpAny_take (i := 11) (v := ?_) rfl (by kernel_rfl) (by kernel_rfl) (by kernel_rfl) (fun _ _ _ h => h) (Or.inl ⟨by rfl, ?_⟩) ?_
      rotate_left
      · intro wz; go_simp; try with_reducible rfl
      refine wpAny_take (i := 12) (v := ?_) rfl (by kernel_rfl) (by kernel_rfl) (by kernel_rfl) (fun _ _ _ h => h) (Or.inl ⟨by rfl, ?_⟩) ?_
      rotate_left
      · intro wz; go_simp; try with_reducible rfl
      refine wpAny_take (i := 13) (v := ?_) rfl (by kernel_rfl) (by kernel_rfl) (by kernel_rfl) (fun _ _ _ h => h) (Or.inl ⟨by rfl, ?_⟩) ?_
      rotate_left
      · intro wz; go_simp; try with_reducible rfl
      refine wpAny_ready (rs := [14]) (by kernel_rfl) (by simp) (AllReady.cons rfl (fun K hK => ?_) AllReady.nil)
      go_simp
      refine hK _ _ ?_
      clear hK K
      refine wpAny_ready (rs := [15]) (by kernel_rfl) (by simp) (AllReady.cons rfl (fun K hK => ?_) AllReady.nil)
      go_simp
      refine hK _ _ ?_
      clear hK K
      refine wpAny_done (by kernel_rfl) ?_ _
      replace hN : At ((w2.setCell ⟨nn, 4, none⟩ (.int .i64 pe)).setCell ⟨nn, 5, none⟩ (.int .i64 L)) nn 27 #[.int .i64 fx, .int .i64 fy, .int .i64 tx, .int .i64 ty, .int .i64 pe, .int .i64 L, .int .i64 de, .int .i64 dl, .int .i64 ld, .int .i64 sv] := (hN.put 4 _).put 5 _
      replace hP : At ((w2.setCell ⟨nn, 4, none⟩ (.int .i64 pe)).setCell ⟨nn, 5, none⟩ (.int .i64 L)) w.heap.size 27 #[.int .i64 fx, .int .i64 fy, .int .i64 tx, .int .i64 ty, .int .i64 pe, .int .i64 pl, .int .i64 de, .int .i64 dl, .int .i64 ld, .int .i64 sv] := (hP.far (by omega) 4 _).far (by omega) 5 _
      replace hS : At ((w2.setCell ⟨nn, 4, none⟩ (.int .i64 pe)).setCell ⟨nn, 5, none⟩ (.int .i64 L)) (w.heap.size + 1) 27 #[.int .i64 0, .int .i64 0, .int .i64 0, .int .i64 0, .int .i64 0, .int .i64 0, .int .i64 0, .int .i64 0, .int .i64 0, .int .i64 0] := (hS.far (by omega) 4 _).far (by omega) 5 _
      replace hB : Below w.heap.size w ((w2.setCell ⟨nn, 4, none⟩ (.int .i64 pe)).setCell ⟨nn, 5, none⟩ (.int .i64 L)) := Below.setCell (Below.setCell hB (by show w.heap.size ≤ nn; omega) _) (by show w.heap.size ≤ nn; omega) _
      generalize ((w2.setCell ⟨nn, 4, none⟩ (.int .i64 pe)).setCell ⟨nn, 5, none⟩ (.int .i64 L)) = w3 at *
      clear c0 c1 c2 c3 c4 c5 c6 c7 c8 c9 s0 s1 s2 s3 s4 s5 s6 s7 s8 s9 n0 n1 n2 n3 n4 n5 n6 n7 n8 n9 fn
      have c0 := hP.cell 0
      have c1 := hP.cell 1
      have c2 := hP.cell 2
      have c3 := hP.cell 3
      have c4 := hP.cell 4
      have c5 := hP.cell 5
      have c6 := hP.cell 6
      have c7 := hP.cell 7
      have c8 := hP.cell 8
      have c9 := hP.cell 9
      simp at c0 c1 c2 c3 c4 c5 c6 c7 c8 c9
      go_wp2_with fail
      have kc0 := cell_regrown c0
      have kc1 := cell_regrown c1
      have kc2 := cell_regrown c2
      have kc3 := cell_regrown c3
      have kc4 := cell_regrown c4
      have kc5 := cell_regrown c5
      have kc6 := cell_regrown c6
      have kc7 := cell_regrown c7
      have kc8 := cell_regrown c8
      have kc9 := cell_regrown c9
      have kA := fun d os => Calls.regrown_of (cA (grow (redrawn w3 d) os))
      have kM := fun d os => Calls.regrown_of (cM2 (grow (redrawn w3 d) os))
      refine wp_region_below_lead 11 5 (by kernel_rfl) (by kernel_rfl) (by kernel_rfl) ?_
      simp only [List.take_succ_cons, List.take_zero]
      repeat (go_big_quiet_step (first | with_reducible exact kA _ _ | with_reducible exact kM _ _))
      refine wpQuiet_nil ?_
      intro _ hw'
      obtain ⟨⟨dq, osq⟩, hw''⟩ := hw'
      subst hw''
      replace hB := hB.trans ((below_regrown w3 dq osq).mono hB.size)
      replace hP := hP.keep (below_regrown w3 dq osq) hP.inside
      replace hS := hS.keep (below_regrown w3 dq osq) hS.inside
      replace hN := hN.keep (below_regrown w3 dq osq) hN.inside
      generalize grow (redrawn w3 dq) osq = w4 at *
      clear kA kM kc0 kc1 kc2 kc3 kc4 kc5 kc6 kc7 kc8 kc9 c0 c1 c2 c3 c4 c5 c6 c7 c8 c9
      have c0 := hP.cell 0
      have c1 := hP.cell 1
      have c2 := hP.cell 2
      have c3 := hP.cell 3
      have c4 := hP.cell 4
      have c5 := hP.cell 5
      have c6 := hP.cell 6
      have c7 := hP.cell 7
      have c8 := hP.cell 8
      have c9 := hP.cell 9
      simp at c0 c1 c2 c3 c4 c5 c6 c7 c8 c9
      have s0 := hS.cell 0
      have s1 := hS.cell 1
      have s2 := hS.cell 2
      have s3 := hS.cell 3
      have s4 := hS.cell 4
      have s5 := hS.cell 5
      have s6 := hS.cell 6
      have s7 := hS.cell 7
      have s8 := hS.cell 8
      have s9 := hS.cell 9
      simp at s0 s1 s2 s3 s4 s5 s6 s7 s8 s9
      have n0 := hN.cell 0
      have n1 := hN.cell 1
      have n2 := hN.cell 2
      have n3 := hN.cell 3
      have n4 := hN.cell 4
      have n5 := hN.cell 5
      have n6 := hN.cell 6
      have n7 := hN.cell 7
      have n8 := hN.cell 8
      have n9 := hN.cell 9
      simp at n0 n1 n2 n3 n4 n5 n6 n7 n8 n9
      have fn := hN.free
      refine wpAny_take (i := 11) (v := ?_) rfl (by kernel_rfl) (by kernel_rfl) (by kernel_rfl) (fun _ _ _ h => h) (Or.inl ⟨by rfl, ?_⟩) ?_
      rotate_left
      · intro wz; go_simp; try with_reducible rfl
      refine wpAny_take (i := 12) (v := ?_) rfl (by kernel_rfl) (by kernel_rfl) (by kernel_rfl) (fun _ _ _ h => h) (Or.inl ⟨by rfl, ?_⟩) ?_
      rotate_left
      · intro wz; go_simp; try with_reducible rfl
      refine wpAny_take (i := 13) (v := ?_) rfl (by kernel_rfl) (by kernel_rfl) (by kernel_rfl) (fun _ _ _ h => h) (Or.inl ⟨by rfl, ?_⟩) ?_
      rotate_left
      · intro wz; go_simp; try with_reducible rfl
      refine wpAny_ready (rs := [14]) (by kernel_rfl) (by simp) (AllReady.cons rfl (fun K hK => ?_) AllReady.nil)
      go_simp
      refine hK _ _ ?_
      clear hK K
      refine wpAny_ready (rs := [15]) (by kernel_rfl) (by simp) (AllReady.cons rfl (fun K hK => ?_) AllReady.nil)
      go_simp
      refine hK _ _ ?_
      clear hK K
      refine wpAny_done (by kernel_rfl) ?_ _
      replace hN : At ((w4.setCell ⟨nn, 6, none⟩ (.int .i64 E)).setCell ⟨nn, 7, none⟩ (.int .i64 dl)) nn 27 #[.int .i64 fx, .int .i64 fy, .int .i64 tx, .int .i64 ty, .int .i64 pe, .int .i64 L, .int .i64 E, .int .i64 dl, .int .i64 ld, .int .i64 sv] := (hN.put 6 _).put 7 _
      replace hP : At ((w4.setCell ⟨nn, 6, none⟩ (.int .i64 E)).setCell ⟨nn, 7, none⟩ (.int .i64 dl)) w.heap.size 27 #[.int .i64 fx, .int .i64 fy, .int .i64 tx, .int .i64 ty, .int .i64 pe, .int .i64 pl, .int .i64 de, .int .i64 dl, .int .i64 ld, .int .i64 sv] := (hP.far (by omega) 6 _).far (by omega) 7 _
      replace hS : At ((w4.setCell ⟨nn, 6, none⟩ (.int .i64 E)).setCell ⟨nn, 7, none⟩ (.int .i64 dl)) (w.heap.size + 1) 27 #[.int .i64 0, .int .i64 0, .int .i64 0, .int .i64 0, .int .i64 0, .int .i64 0, .int .i64 0, .int .i64 0, .int .i64 0, .int .i64 0] := (hS.far (by omega) 6 _).far (by omega) 7 _
      replace hB : Below w.heap.size w ((w4.setCell ⟨nn, 6, none⟩ (.int .i64 E)).setCell ⟨nn, 7, none⟩ (.int .i64 dl)) := Below.setCell (Below.setCell hB (by show w.heap.size ≤ nn; omega) _) (by show w.heap.size ≤ nn; omega) _
      generalize ((w4.setCell ⟨nn, 6, none⟩ (.int .i64 E)).setCell ⟨nn, 7, none⟩ (.int .i64 dl)) = w5 at *
      clear c0 c1 c2 c3 c4 c5 c6 c7 c8 c9 s0 s1 s2 s3 s4 s5 s6 s7 s8 s9 n0 n1 n2 n3 n4 n5 n6 n7 n8 n9 fn
      have c0 := hP.cell 0
      have c1 := hP.cell 1
      have c2 := hP.cell 2
      have c3 := hP.cell 3
      have c4 := hP.cell 4
      have c5 := hP.cell 5
      have c6 := hP.cell 6
      have c7 := hP.cell 7
      have c8 := hP.cell 8
      have c9 := hP.cell 9
      simp at c0 c1 c2 c3 c4 c5 c6 c7 c8 c9
      have n0 := hN.cell 0
      have n1 := hN.cell 1
      have n2 := hN.cell 2
      have n3 := hN.cell 3
      have n4 := hN.cell 4
      have n5 := hN.cell 5
      have n6 := hN.cell 6
      have n7 := hN.cell 7
      have n8 := hN.cell 8
      have n9 := hN.cell 9
      simp at n0 n1 n2 n3 n4 n5 n6 n7 n8 n9
      have s0 := hS.cell 0
      have s1 := hS.cell 1
      have s2 := hS.cell 2
      have s3 := hS.cell 3
      have s4 := hS.cell 4
      have s5 := hS.cell 5
      have s6 := hS.cell 6
      have s7 := hS.cell 7
      have s8 := hS.cell 8
      have s9 := hS.cell 9
      simp at s0 s1 s2 s3 s4 s5 s6 s7 s8 s9
      have hf := hS.free
      go_wp2
      refine bodyPost_ret (res_rq rfl rfl (x0 := .int .i64 fx) (x1 := .int .i64 fy) (x2 := .int .i64 tx) (x3 := .int .i64 ty) (x4 := .int .i64 pe) (x5 := .int .i64 L) (x6 := .int .i64 E) (x7 := .int .i64 dl) (x8 := .int .i64 ld) (x9 := .int .i64 sv) (by exact put10 hS)) rfl ?_
      exact ⟨rfl, by repeat (first | refine Below.setCell ?_ (by simp <;> omega) _ | with_reducible exact hB)⟩
    · have hTB : tightB fx fy tx ty pe pl de dl ld sv = false := (tightB_no fx fy tx ty pe pl de dl ld sv).2 (fun h => hT h.2)
      rw [hTB]
      simp only [orNil_f]
      have mm := meets_no hok1 hok2 b1.1 hT
      obtain ⟨A, hA⟩ : ∃ A, apV fx fy tx ty pe pl de dl ld sv = A := ⟨_, rfl⟩
      rw [hA] at b1 mm
      obtain ⟨b1l, b1h⟩ := b1
      obtain ⟨⟨m1, m2, m3⟩, m4, m5, m6⟩ := mm
      have cA : ∀ w, Calls Try.prog 36 #[.agg #[.int .i64 fx, .int .i64 fy, .int .i64 tx, .int .i64 ty, .int .i64 pe, .int .i64 pl, .int .i64 de, .int .i64 dl, .int .i64 ld, .int .i64 sv]] w fun r w' => r = .returned (.int .i64 A) ∧ Below w.heap.size w w' := fun w => by rw [← hA]; exact apart_any fx fy tx ty pe pl de dl ld sv ⟨hs1, hs2⟩ w
      have cM1 : ∀ w, Calls Try.prog 43 #[.agg #[.int .i64 pe, .int .i64 pl], .agg #[.int .i64 0, .int .i64 (dl - A)]] w fun r w' => r = .returned (.tuple #[.agg #[.int .i64 0, .int .i64 0], .bool false]) ∧ Below w.heap.size w w' := fun w => by have h := Meet_any pe pl 0 (dl - A) w; rwa [m1, m2, m3] at h
      have cM2 : ∀ w, Calls Try.prog 43 #[.agg #[.int .i64 de, .int .i64 dl], .agg #[.int .i64 (pe + A), .int .i64 1048576]] w fun r w' => r = .returned (.tuple #[.agg #[.int .i64 0, .int .i64 0], .bool false]) ∧ Below w.heap.size w w' := fun w => by have h := Meet_any de dl (pe + A) 1048576 w; rwa [m4, m5, m6] at h
      clear m1 m2 m3 m4 m5 m6 hA hTB hC hT hok1 hok2
      go_enter Try.func35, Try.ntmps35
      go_wp2_with fail
      generalize ((w.alloc (.cells #[.int .i64 fx, .int .i64 fy, .int .i64 tx, .int .i64 ty, .int .i64 pe, .int .i64 pl, .int .i64 de, .int .i64 dl, .int .i64 ld, .int .i64 sv] 27)).alloc (.cells #[.int .i64 0, .int .i64 0, .int .i64 0, .int .i64 0, .int .i64 0, .int .i64 0, .int .i64 0, .int .i64 0, .int .i64 0, .int .i64 0] 27)) = w0 at *
      refine (cC _).mono ?_
      rintro e w' ⟨rfl, hb1⟩
      replace hP := hP.keep hb1 hP.inside
      replace hS := hS.keep hb1 hS.inside
      replace hB := hB.trans (hb1.mono hB.size)
      clear hb1
      try clear c0 c1 c2 c3 c4 c5 c6 c7 c8 c9 s0 s1 s2 s3 s4 s5 s6 s7 s8 s9
      have c0 := hP.cell 0
      have c1 := hP.cell 1
      have c2 := hP.cell 2
      have c3 := hP.cell 3
      have c4 := hP.cell 4
      have c5 := hP.cell 5
      have c6 := hP.cell 6
      have c7 := hP.cell 7
      have c8 := hP.cell 8
      have c9 := hP.cell 9
      simp at c0 c1 c2 c3 c4 c5 c6 c7 c8 c9
      have s0 := hS.cell 0
      have s1 := hS.cell 1
      have s2 := hS.cell 2
      have s3 := hS.cell 3
      have s4 := hS.cell 4
      have s5 := hS.cell 5
      have s6 := hS.cell 6
      have s7 := hS.cell 7
      have s8 := hS.cell 8
      have s9 := hS.cell 9
      simp at s0 s1 s2 s3 s4 s5 s6 s7 s8 s9
      have hp1 := hP.inside
      have hs1 := hS.inside
      go_wp2_with fail
      replace hP := hP.alloc (.cells #[.int .i64 fx, .int .i64 fy, .int .i64 tx, .int .i64 ty, .int .i64 pe, .int .i64 pl, .int .i64 de, .int .i64 dl, .int .i64 ld, .int .i64 sv] 27)
      replace hS := hS.alloc (.cells #[.int .i64 fx, .int .i64 fy, .int .i64 tx, .int .i64 ty, .int .i64 pe, .int .i64 pl, .int .i64 de, .int .i64 dl, .int .i64 ld, .int .i64 sv] 27)
      have hN := At.new w' 27 #[.int .i64 fx, .int .i64 fy, .int .i64 tx, .int .i64 ty, .int .i64 pe, .int .i64 pl, .int .i64 de, .int .i64 dl, .int .i64 ld, .int .i64 sv]
      replace hB := hB.alloc hB.size (.cells #[.int .i64 fx, .int .i64 fy, .int .i64 tx, .int .i64 ty, .int .i64 pe, .int .i64 pl, .int .i64 de, .int .i64 dl, .int .i64 ld, .int .i64 sv] 27)
      generalize hnn : w'.heap.size = nn at *
      generalize (w'.alloc (.cells #[.int .i64 fx, .int .i64 fy, .int .i64 tx, .int .i64 ty, .int .i64 pe, .int .i64 pl, .int .i64 de, .int .i64 dl, .int .i64 ld, .int .i64 sv] 27)) = w1 at *
      clear c0 c1 c2 c3 c4 c5 c6 c7 c8 c9 s0 s1 s2 s3 s4 s5 s6 s7 s8 s9
      have c0 := hP.cell 0
      have c1 := hP.cell 1
      have c2 := hP.cell 2
      have c3 := hP.cell 3
      have c4 := hP.cell 4
      have c5 := hP.cell 5
      have c6 := hP.cell 6
      have c7 := hP.cell 7
      have c8 := hP.cell 8
      have c9 := hP.cell 9
      simp at c0 c1 c2 c3 c4 c5 c6 c7 c8 c9
      have kc0 := cell_regrown c0
      have kc1 := cell_regrown c1
      have kc2 := cell_regrown c2
      have kc3 := cell_regrown c3
      have kc4 := cell_regrown c4
      have kc5 := cell_regrown c5
      have kc6 := cell_regrown c6
      have kc7 := cell_regrown c7
      have kc8 := cell_regrown c8
      have kc9 := cell_regrown c9
      have kA := fun d os => Calls.regrown_of (cA (grow (redrawn w1 d) os))
      have kM := fun d os => Calls.regrown_of (cM1 (grow (redrawn w1 d) os))
      refine wp_region_below_lead 11 5 (by kernel_rfl) (by kernel_rfl) (by kernel_rfl) ?_
      simp only [List.take_succ_cons, List.take_zero]
      repeat (go_big_quiet_step (first | with_reducible exact kA _ _ | with_reducible exact kM _ _))
      refine wpQuiet_nil ?_
      intro _ hw'
      obtain ⟨⟨dq, osq⟩, hw''⟩ := hw'
      subst hw''
      replace hB := hB.trans ((below_regrown w1 dq osq).mono hB.size)
      replace hP := hP.keep (below_regrown w1 dq osq) hP.inside
      replace hS := hS.keep (below_regrown w1 dq osq) hS.inside
      replace hN := hN.keep (below_regrown w1 dq osq) hN.inside
      generalize grow (redrawn w1 dq) osq = w2 at *
      clear kA kM kc0 kc1 kc2 kc3 kc4 kc5 kc6 kc7 kc8 kc9 c0 c1 c2 c3 c4 c5 c6 c7 c8 c9
      have c0 := hP.cell 0
      have c1 := hP.cell 1
      have c2 := hP.cell 2
      have c3 := hP.cell 3
      have c4 := hP.cell 4
      have c5 := hP.cell 5
      have c6 := hP.cell 6
      have c7 := hP.cell 7
      have c8 := hP.cell 8
      have c9 := hP.cell 9
      simp at c0 c1 c2 c3 c4 c5 c6 c7 c8 c9
      have s0 := hS.cell 0
      have s1 := hS.cell 1
      have s2 := hS.cell 2
      have s3 := hS.cell 3
      have s4 := hS.cell 4
      have s5 := hS.cell 5
      have s6 := hS.cell 6
      have s7 := hS.cell 7
      have s8 := hS.cell 8
      have s9 := hS.cell 9
      simp at s0 s1 s2 s3 s4 s5 s6 s7 s8 s9
      have n0 := hN.cell 0
      have n1 := hN.cell 1
      have n2 := hN.cell 2
      have n3 := hN.cell 3
      have n4 := hN.cell 4
      have n5 := hN.cell 5
      have n6 := hN.cell 6
      have n7 := hN.cell 7
      have n8 := hN.cell 8
      have n9 := hN.cell 9
      simp at n0 n1 n2 n3 n4 n5 n6 n7 n8 n9
      have fn := hN.free
      refine wpAny_take (i := 11) (v := ?_) rfl (by kernel_rfl) (by kernel_rfl) (by kernel_rfl) (fun _ _ _ h => h) (Or.inl ⟨by rfl, ?_⟩) ?_
      rotate_left
      · intro wz; go_simp; try with_reducible rfl
      refine wpAny_take (i := 12) (v := ?_) rfl (by kernel_rfl) (by kernel_rfl) (by kernel_rfl) (fun _ _ _ h => h) (Or.inl ⟨by rfl, ?_⟩) ?_
      rotate_left
      · intro wz; go_simp; try with_reducible rfl
      refine wpAny_take (i := 13) (v := ?_) rfl (by kernel_rfl) (by kernel_rfl) (by kernel_rfl) (fun _ _ _ h => h) (Or.inl ⟨by rfl, ?_⟩) ?_
      rotate_left
      · intro wz; go_simp; try with_reducible rfl
      refine wpAny_ready (rs := [14]) (by kernel_rfl) (by simp) (AllReady.cons rfl (fun K hK => ?_) AllReady.nil)
      go_simp
      refine hK _ _ ?_
      clear hK K
      refine wpAny_ready (rs := [15]) (by kernel_rfl) (by simp) (AllReady.cons rfl (fun K hK => ?_) AllReady.nil)
      go_simp
      refine hK _ _ ?_
      clear hK K
      refine wpAny_done (by kernel_rfl) ?_ _
      replace hN : At ((w2.setCell ⟨nn, 4, none⟩ (.int .i64 0)).setCell ⟨nn, 5, none⟩ (.int .i64 0)) nn 27 #[.int .i64 fx, .int .i64 fy, .int .i64 tx, .int .i64 ty, .int .i64 0, .int .i64 0, .int .i64 de, .int .i64 dl, .int .i64 ld, .int .i64 sv] := (hN.put 4 _).put 5 _
      replace hP : At ((w2.setCell ⟨nn, 4, none⟩ (.int .i64 0)).setCell ⟨nn, 5, none⟩ (.int .i64 0)) w.heap.size 27 #[.int .i64 fx, .int .i64 fy, .int .i64 tx, .int .i64 ty, .int .i64 pe, .int .i64 pl, .int .i64 de, .int .i64 dl, .int .i64 ld, .int .i64 sv] := (hP.far (by omega) 4 _).far (by omega) 5 _
      replace hS : At ((w2.setCell ⟨nn, 4, none⟩ (.int .i64 0)).setCell ⟨nn, 5, none⟩ (.int .i64 0)) (w.heap.size + 1) 27 #[.int .i64 0, .int .i64 0, .int .i64 0, .int .i64 0, .int .i64 0, .int .i64 0, .int .i64 0, .int .i64 0, .int .i64 0, .int .i64 0] := (hS.far (by omega) 4 _).far (by omega) 5 _
      replace hB : Below w.heap.size w ((w2.setCell ⟨nn, 4, none⟩ (.int .i64 0)).setCell ⟨nn, 5, none⟩ (.int .i64 0)) := Below.setCell (Below.setCell hB (by show w.heap.size ≤ nn; omega) _) (by show w.heap.size ≤ nn; omega) _
      generalize ((w2.setCell ⟨nn, 4, none⟩ (.int .i64 0)).setCell ⟨nn, 5, none⟩ (.int .i64 0)) = w3 at *
      clear c0 c1 c2 c3 c4 c5 c6 c7 c8 c9 s0 s1 s2 s3 s4 s5 s6 s7 s8 s9 n0 n1 n2 n3 n4 n5 n6 n7 n8 n9 fn
      have c0 := hP.cell 0
      have c1 := hP.cell 1
      have c2 := hP.cell 2
      have c3 := hP.cell 3
      have c4 := hP.cell 4
      have c5 := hP.cell 5
      have c6 := hP.cell 6
      have c7 := hP.cell 7
      have c8 := hP.cell 8
      have c9 := hP.cell 9
      simp at c0 c1 c2 c3 c4 c5 c6 c7 c8 c9
      go_wp2_with fail
      have kc0 := cell_regrown c0
      have kc1 := cell_regrown c1
      have kc2 := cell_regrown c2
      have kc3 := cell_regrown c3
      have kc4 := cell_regrown c4
      have kc5 := cell_regrown c5
      have kc6 := cell_regrown c6
      have kc7 := cell_regrown c7
      have kc8 := cell_regrown c8
      have kc9 := cell_regrown c9
      have kA := fun d os => Calls.regrown_of (cA (grow (redrawn w3 d) os))
      have kM := fun d os => Calls.regrown_of (cM2 (grow (redrawn w3 d) os))
      refine wp_region_below_lead 11 5 (by kernel_rfl) (by kernel_rfl) (by kernel_rfl) ?_
      simp only [List.take_succ_cons, List.take_zero]
      repeat (go_big_quiet_step (first | with_reducible exact kA _ _ | with_reducible exact kM _ _))
      refine wpQuiet_nil ?_
      intro _ hw'
      obtain ⟨⟨dq, osq⟩, hw''⟩ := hw'
      subst hw''
      replace hB := hB.trans ((below_regrown w3 dq osq).mono hB.size)
      replace hP := hP.keep (below_regrown w3 dq osq) hP.inside
      replace hS := hS.keep (below_regrown w3 dq osq) hS.inside
      replace hN := hN.keep (below_regrown w3 dq osq) hN.inside
      generalize grow (redrawn w3 dq) osq = w4 at *
      clear kA kM kc0 kc1 kc2 kc3 kc4 kc5 kc6 kc7 kc8 kc9 c0 c1 c2 c3 c4 c5 c6 c7 c8 c9
      have c0 := hP.cell 0
      have c1 := hP.cell 1
      have c2 := hP.cell 2
      have c3 := hP.cell 3
      have c4 := hP.cell 4
      have c5 := hP.cell 5
      have c6 := hP.cell 6
      have c7 := hP.cell 7
      have c8 := hP.cell 8
      have c9 := hP.cell 9
      simp at c0 c1 c2 c3 c4 c5 c6 c7 c8 c9
      have s0 := hS.cell 0
      have s1 := hS.cell 1
      have s2 := hS.cell 2
      have s3 := hS.cell 3
      have s4 := hS.cell 4
      have s5 := hS.cell 5
      have s6 := hS.cell 6
      have s7 := hS.cell 7
      have s8 := hS.cell 8
      have s9 := hS.cell 9
      simp at s0 s1 s2 s3 s4 s5 s6 s7 s8 s9
      have n0 := hN.cell 0
      have n1 := hN.cell 1
      have n2 := hN.cell 2
      have n3 := hN.cell 3
      have n4 := hN.cell 4
      have n5 := hN.cell 5
      have n6 := hN.cell 6
      have n7 := hN.cell 7
      have n8 := hN.cell 8
      have n9 := hN.cell 9
      simp at n0 n1 n2 n3 n4 n5 n6 n7 n8 n9
      have fn := hN.free
      refine wpAny_take (i := 11) (v := ?_) rfl (by kernel_rfl) (by kernel_rfl) (by kernel_rfl) (fun _ _ _ h => h) (Or.inl ⟨by rfl, ?_⟩) ?_
      rotate_left
      · intro wz; go_simp; try with_reducible rfl
      refine wpAny_take (i := 12) (v := ?_) rfl (by kernel_rfl) (by kernel_rfl) (by kernel_rfl) (fun _ _ _ h => h) (Or.inl ⟨by rfl, ?_⟩) ?_
      rotate_left
      · intro wz; go_simp; try with_reducible rfl
      refine wpAny_take (i := 13) (v := ?_) rfl (by kernel_rfl) (by kernel_rfl) (by kernel_rfl) (fun _ _ _ h => h) (Or.inl ⟨by rfl, ?_⟩) ?_
      rotate_left
      · intro wz; go_simp; try with_reducible rfl
      refine wpAny_ready (rs := [14]) (by kernel_rfl) (by simp) (AllReady.cons rfl (fun K hK => ?_) AllReady.nil)
      go_simp
      refine hK _ _ ?_
      clear hK K
      refine wpAny_ready (rs := [15]) (by kernel_rfl) (by simp) (AllReady.cons rfl (fun K hK => ?_) AllReady.nil)
      go_simp
      refine hK _ _ ?_
      clear hK K
      refine wpAny_done (by kernel_rfl) ?_ _
      replace hN : At ((w4.setCell ⟨nn, 6, none⟩ (.int .i64 0)).setCell ⟨nn, 7, none⟩ (.int .i64 0)) nn 27 #[.int .i64 fx, .int .i64 fy, .int .i64 tx, .int .i64 ty, .int .i64 0, .int .i64 0, .int .i64 0, .int .i64 0, .int .i64 ld, .int .i64 sv] := (hN.put 6 _).put 7 _
      replace hP : At ((w4.setCell ⟨nn, 6, none⟩ (.int .i64 0)).setCell ⟨nn, 7, none⟩ (.int .i64 0)) w.heap.size 27 #[.int .i64 fx, .int .i64 fy, .int .i64 tx, .int .i64 ty, .int .i64 pe, .int .i64 pl, .int .i64 de, .int .i64 dl, .int .i64 ld, .int .i64 sv] := (hP.far (by omega) 6 _).far (by omega) 7 _
      replace hS : At ((w4.setCell ⟨nn, 6, none⟩ (.int .i64 0)).setCell ⟨nn, 7, none⟩ (.int .i64 0)) (w.heap.size + 1) 27 #[.int .i64 0, .int .i64 0, .int .i64 0, .int .i64 0, .int .i64 0, .int .i64 0, .int .i64 0, .int .i64 0, .int .i64 0, .int .i64 0] := (hS.far (by omega) 6 _).far (by omega) 7 _
      replace hB : Below w.heap.size w ((w4.setCell ⟨nn, 6, none⟩ (.int .i64 0)).setCell ⟨nn, 7, none⟩ (.int .i64 0)) := Below.setCell (Below.setCell hB (by show w.heap.size ≤ nn; omega) _) (by show w.heap.size ≤ nn; omega) _
      generalize ((w4.setCell ⟨nn, 6, none⟩ (.int .i64 0)).setCell ⟨nn, 7, none⟩ (.int .i64 0)) = w5 at *
      clear c0 c1 c2 c3 c4 c5 c6 c7 c8 c9 s0 s1 s2 s3 s4 s5 s6 s7 s8 s9 n0 n1 n2 n3 n4 n5 n6 n7 n8 n9 fn
      have c0 := hP.cell 0
      have c1 := hP.cell 1
      have c2 := hP.cell 2
      have c3 := hP.cell 3
      have c4 := hP.cell 4
      have c5 := hP.cell 5
      have c6 := hP.cell 6
      have c7 := hP.cell 7
      have c8 := hP.cell 8
      have c9 := hP.cell 9
      simp at c0 c1 c2 c3 c4 c5 c6 c7 c8 c9
      have n0 := hN.cell 0
      have n1 := hN.cell 1
      have n2 := hN.cell 2
      have n3 := hN.cell 3
      have n4 := hN.cell 4
      have n5 := hN.cell 5
      have n6 := hN.cell 6
      have n7 := hN.cell 7
      have n8 := hN.cell 8
      have n9 := hN.cell 9
      simp at n0 n1 n2 n3 n4 n5 n6 n7 n8 n9
      have s0 := hS.cell 0
      have s1 := hS.cell 1
      have s2 := hS.cell 2
      have s3 := hS.cell 3
      have s4 := hS.cell 4
      have s5 := hS.cell 5
      have s6 := hS.cell 6
      have s7 := hS.cell 7
      have s8 := hS.cell 8
      have s9 := hS.cell 9
      simp at s0 s1 s2 s3 s4 s5 s6 s7 s8 s9
      have hf := hS.free
      go_wp2
      refine bodyPost_ret (res_rq rfl rfl (x0 := .int .i64 0) (x1 := .int .i64 0) (x2 := .int .i64 0) (x3 := .int .i64 0) (x4 := .int .i64 0) (x5 := .int .i64 0) (x6 := .int .i64 0) (x7 := .int .i64 0) (x8 := .int .i64 0) (x9 := .int .i64 0) (by exact put10 hS)) rfl ?_
      exact ⟨rfl, by repeat (first | refine Below.setCell ?_ (by simp <;> omega) _ | with_reducible exact hB)⟩
  · have hTB : tightB fx fy tx ty pe pl de dl ld sv = false := (tightB_no fx fy tx ty pe pl de dl ld sv).2 (fun h => h1 (hC.symm.trans h.1))
    rw [hTB]
    simp only [orNil_f]
    clear hTB hC
    go_enter Try.func35, Try.ntmps35
    go_wp2_with fail
    generalize ((w.alloc (.cells #[.int .i64 fx, .int .i64 fy, .int .i64 tx, .int .i64 ty, .int .i64 pe, .int .i64 pl, .int .i64 de, .int .i64 dl, .int .i64 ld, .int .i64 sv] 27)).alloc (.cells #[.int .i64 0, .int .i64 0, .int .i64 0, .int .i64 0, .int .i64 0, .int .i64 0, .int .i64 0, .int .i64 0, .int .i64 0, .int .i64 0] 27)) = w0 at *
    refine (cC _).mono ?_
    rintro e w' ⟨rfl, hb1⟩
    replace hP := hP.keep hb1 hP.inside
    replace hS := hS.keep hb1 hS.inside
    replace hB := hB.trans (hb1.mono hB.size)
    clear hb1
    try clear c0 c1 c2 c3 c4 c5 c6 c7 c8 c9 s0 s1 s2 s3 s4 s5 s6 s7 s8 s9
    have c0 := hP.cell 0
    have c1 := hP.cell 1
    have c2 := hP.cell 2
    have c3 := hP.cell 3
    have c4 := hP.cell 4
    have c5 := hP.cell 5
    have c6 := hP.cell 6
    have c7 := hP.cell 7
    have c8 := hP.cell 8
    have c9 := hP.cell 9
    simp at c0 c1 c2 c3 c4 c5 c6 c7 c8 c9
    have s0 := hS.cell 0
    have s1 := hS.cell 1
    have s2 := hS.cell 2
    have s3 := hS.cell 3
    have s4 := hS.cell 4
    have s5 := hS.cell 5
    have s6 := hS.cell 6
    have s7 := hS.cell 7
    have s8 := hS.cell 8
    have s9 := hS.cell 9
    simp at s0 s1 s2 s3 s4 s5 s6 s7 s8 s9
    have hf := hS.free
    go_wp2
    refine bodyPost_ret (res_rq rfl rfl (x0 := .int .i64 0) (x1 := .int .i64 0) (x2 := .int .i64 0) (x3 := .int .i64 0) (x4 := .int .i64 0) (x5 := .int .i64 0) (x6 := .int .i64 0) (x7 := .int .i64 0) (x8 := .int .i64 0) (x9 := .int .i64 0) (by exact put10 hS)) rfl ?_
    exact ⟨rfl, by repeat (first | refine Below.setCell ?_ (by simp <;> omega) _ | with_reducible exact hB)⟩

end Go.Proofs.Ytcdgfjfomiokmaa.Order
