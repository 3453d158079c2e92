/-
  consignlaw03.WindowMeets returns true for all three windows by small numbers, and times: a time is in what two windows have together just if it is in both; whichever comes first, and of three in whatever order. No condition.
-/
import Derived.Test.YtljpcicahhfkpaaWindowWorks
import Derived.Test.YtljpcicahhfkpaaWindowOpen
import Derived.Test.YtljpcicahhfkpaaWindowMeetsMath
import Derived.Deep.CutRange
namespace Go.Proofs.Ytljpcicahhfkpaa.windowMeets
open Go.ChangeShapes Go.WideShapes Go.ChangeAt Go.RowKit Go.Sort Go.Proofs.Ytljpcicahhfkpaa.Window Go.Proofs.Ytljpcicahhfkpaa.Mem Go.Proofs.Ytljpcicahhfkpaa.Tail
set_option linter.unusedVariables false

set_option maxRecDepth 100000 in
set_option maxHeartbeats 8000000 in
theorem walk (x0 x1 x2 x3 x4 x5 t : Int) (hx0 : 0 ≤ x0 ∧ x0 ≤ 255) (hx1 : 0 ≤ x1 ∧ x1 ≤ 255) (hx2 : 0 ≤ x2 ∧ x2 ≤ 255) (hx3 : 0 ≤ x3 ∧ x3 ≤ 255) (hx4 : 0 ≤ x4 ∧ x4 ≤ 255) (hx5 : 0 ≤ x5 ∧ x5 ≤ 255) (ht : 0 ≤ t ∧ t ≤ 255) (w : World) :
    Calls Try.prog 4 #[.agg #[.int .u8 x0, .int .u8 x1, .int .u8 x2, .int .u8 x3, .int .u8 x4, .int .u8 x5], .int .u8 t] w fun e w' => e = .returned (.bool true) ∧ Below w.heap.size w w' := by
  have hX0 : At (w.alloc (.cells #[.int .u8 x0, .int .u8 x1, .int .u8 x2, .int .u8 x3, .int .u8 x4, .int .u8 x5] 36)) w.heap.size 36 #[.int .u8 x0, .int .u8 x1, .int .u8 x2, .int .u8 x3, .int .u8 x4, .int .u8 x5] := At.new w _ _
  have hb0 : Below w.heap.size w (w.alloc (.cells #[.int .u8 x0, .int .u8 x1, .int .u8 x2, .int .u8 x3, .int .u8 x4, .int .u8 x5] 36)) := (Below.refl _ _).alloc (Nat.le_refl _) _
  obtain ⟨hx00, hx01⟩ := hx0
  obtain ⟨hx10, hx11⟩ := hx1
  obtain ⟨hx20, hx21⟩ := hx2
  obtain ⟨hx30, hx31⟩ := hx3
  obtain ⟨hx40, hx41⟩ := hx4
  obtain ⟨hx50, hx51⟩ := hx5
  obtain ⟨ht0, ht1⟩ := ht
  go_enter Try.func4, Try.ntmps4
  go_wp2_with fail
  generalize (w.alloc (.cells #[.int .u8 x0, .int .u8 x1, .int .u8 x2, .int .u8 x3, .int .u8 x4, .int .u8 x5] 36)) = w0 at *
  refine (works_any _).mono ?_
  rintro e w1 ⟨rfl, hb1⟩
  have hX1 := hX0.keep hb1 hX0.inside
  have hB1 := hb0.trans (hb1.mono hb0.size)
  clear hX0 hb0 hb1 w0
  have hX2 := hX1.alloc (.cells #[.int .i64 0, .int .i64 0, .int .i64 0, .int .i64 0, .int .i64 0, .int .i64 0] 37)
  have hA2 := At.new w1 37 #[.int .i64 0, .int .i64 0, .int .i64 0, .int .i64 0, .int .i64 0, .int .i64 0]
  have hB2 := hB1.alloc hB1.size (.cells #[.int .i64 0, .int .i64 0, .int .i64 0, .int .i64 0, .int .i64 0, .int .i64 0] 37)
  go_wp2_with fail
  generalize (w1.alloc (.cells #[.int .i64 0, .int .i64 0, .int .i64 0, .int .i64 0, .int .i64 0, .int .i64 0] 37)) = w2 at *
  have hgw' := hX1.inside
  generalize w1.heap.size = g at *
  clear hX1 hB1
  go_loopw [6] (fun i wr => (i = .int .i64 0 ∧ At wr g 37 #[.int .i64 0, .int .i64 0, .int .i64 0, .int .i64 0, .int .i64 0, .int .i64 0] ∨ i = .int .i64 1 ∧ At wr g 37 #[.int .i64 (x0 % 30), .int .i64 (x0 % 30 + x1 % 30), .int .i64 0, .int .i64 0, .int .i64 0, .int .i64 0] ∨ i = .int .i64 2 ∧ At wr g 37 #[.int .i64 (x0 % 30), .int .i64 (x0 % 30 + x1 % 30), .int .i64 (x2 % 30), .int .i64 (x2 % 30 + x3 % 30), .int .i64 0, .int .i64 0] ∨ i = .int .i64 3 ∧ At wr g 37 #[.int .i64 (x0 % 30), .int .i64 (x0 % 30 + x1 % 30), .int .i64 (x2 % 30), .int .i64 (x2 % 30 + x3 % 30), .int .i64 (x4 % 30), .int .i64 (x4 % 30 + x5 % 30)]) ∧ At wr w.heap.size 36 #[.int .u8 x0, .int .u8 x1, .int .u8 x2, .int .u8 x3, .int .u8 x4, .int .u8 x5] ∧ Below w.heap.size w wr) (fun i _ => (3 - intOf i).toNat)
  case atStart => exact ⟨.inl ⟨rfl, hA2⟩, hX2, hB2⟩
  case round =>
    have hgw : w.heap.size ≤ g := Nat.le_of_lt hgw'
    clear hX2 hA2 hB2
    obtain ⟨(⟨rfl, hA⟩ | ⟨rfl, hA⟩ | ⟨rfl, hA⟩ | ⟨rfl, hA⟩), hX, hB⟩ := hrel
    · have v0 := hX.cell 0
      have v1 := hX.cell 1
      simp at v0 v1
      have a0 := hA.cell 0
      have a1 := hA.cell 1
      simp at a0 a1
      have kv0 := cell_regrown v0
      have kv1 := cell_regrown v1
      have ka0 := cell_regrown a0
      have ka1 := cell_regrown a1
      have cS := fun (x y : Int) d os => Calls.regrown_of (span_any x y (grow (redrawn wr d) os))
      go_wp2_with fail
      refine wp_region_below_tail 23 (by kernel_rfl) (by kernel_rfl) (by kernel_rfl) ?_
      simp only [List.take_succ_cons, List.take_zero, List.drop_succ_cons, List.drop_zero]
      repeat (go_big_quiet_step (with_reducible exact cS _ _ _ _))
      refine wpQuiet_nil ?_
      intro _ hw'
      obtain ⟨⟨dq, osq⟩, hw''⟩ := hw'
      subst hw''
      have hE := hB.trans ((below_regrown wr dq osq).mono hB.size)
      have hA' := hA.keep (below_regrown wr dq osq) hA.inside
      have hX' := hX.keep (below_regrown wr dq osq) hX.inside
      clear cS kv0 kv1 ka0 ka1 a0 a1 v0 v1 hB hA hX
      generalize grow (redrawn wr dq) osq = wt at *
      have a0 := hA'.cell 0
      have a1 := hA'.cell 1
      simp at a0 a1
      have fa0 := hA'.free 0
      have fa1 := hA'.free 1
      have hA2 : At ((wt.setCell ⟨g, 0, none⟩ (.int .i64 (x0 % 30))).setCell ⟨g, 1, none⟩ (.int .i64 (x0 % 30 + x1 % 30))) g 37 #[.int .i64 (x0 % 30), .int .i64 (x0 % 30 + x1 % 30), .int .i64 0, .int .i64 0, .int .i64 0, .int .i64 0] := by
        have := (hA'.put 0 (.int .i64 (x0 % 30))).put 1 (.int .i64 (x0 % 30 + x1 % 30))
        simpa using this
      have hX2 : At ((wt.setCell ⟨g, 0, none⟩ (.int .i64 (x0 % 30))).setCell ⟨g, 1, none⟩ (.int .i64 (x0 % 30 + x1 % 30))) w.heap.size 36 #[.int .u8 x0, .int .u8 x1, .int .u8 x2, .int .u8 x3, .int .u8 x4, .int .u8 x5] := (hX'.far (b := g) (Nat.ne_of_lt hgw') 0 _).far (b := g) (Nat.ne_of_lt hgw') 1 _
      have hE2 : Below w.heap.size w ((wt.setCell ⟨g, 0, none⟩ (.int .i64 (x0 % 30))).setCell ⟨g, 1, none⟩ (.int .i64 (x0 % 30 + x1 % 30))) := (hE.setCell (by simpa using hgw) _).setCell (by simpa using hgw) _
      clear hE hA' hX'
      go_wp2
      go_roundw
      case rel => exact ⟨.inr (.inl ⟨by go_num, hA2⟩), hX2, hE2⟩
      case measure => simp [intOf]
    · have v0 := hX.cell 2
      have v1 := hX.cell 3
      simp at v0 v1
      have a0 := hA.cell 2
      have a1 := hA.cell 3
      simp at a0 a1
      have kv0 := cell_regrown v0
      have kv1 := cell_regrown v1
      have ka0 := cell_regrown a0
      have ka1 := cell_regrown a1
      have cS := fun (x y : Int) d os => Calls.regrown_of (span_any x y (grow (redrawn wr d) os))
      go_wp2_with fail
      refine wp_region_below_tail 23 (by kernel_rfl) (by kernel_rfl) (by kernel_rfl) ?_
      simp only [List.take_succ_cons, List.take_zero, List.drop_succ_cons, List.drop_zero]
      repeat (go_big_quiet_step (with_reducible exact cS _ _ _ _))
      refine wpQuiet_nil ?_
      intro _ hw'
      obtain ⟨⟨dq, osq⟩, hw''⟩ := hw'
      subst hw''
      have hE := hB.trans ((below_regrown wr dq osq).mono hB.size)
      have hA' := hA.keep (below_regrown wr dq osq) hA.inside
      have hX' := hX.keep (below_regrown wr dq osq) hX.inside
      clear cS kv0 kv1 ka0 ka1 a0 a1 v0 v1 hB hA hX
      generalize grow (redrawn wr dq) osq = wt at *
      have a0 := hA'.cell 2
      have a1 := hA'.cell 3
      simp at a0 a1
      have fa0 := hA'.free 2
      have fa1 := hA'.free 3
      have hA2 : At ((wt.setCell ⟨g, 2, none⟩ (.int .i64 (x2 % 30))).setCell ⟨g, 3, none⟩ (.int .i64 (x2 % 30 + x3 % 30))) g 37 #[.int .i64 (x0 % 30), .int .i64 (x0 % 30 + x1 % 30), .int .i64 (x2 % 30), .int .i64 (x2 % 30 + x3 % 30), .int .i64 0, .int .i64 0] := by
        have := (hA'.put 2 (.int .i64 (x2 % 30))).put 3 (.int .i64 (x2 % 30 + x3 % 30))
        simpa using this
      have hX2 : At ((wt.setCell ⟨g, 2, none⟩ (.int .i64 (x2 % 30))).setCell ⟨g, 3, none⟩ (.int .i64 (x2 % 30 + x3 % 30))) w.heap.size 36 #[.int .u8 x0, .int .u8 x1, .int .u8 x2, .int .u8 x3, .int .u8 x4, .int .u8 x5] := (hX'.far (b := g) (Nat.ne_of_lt hgw') 2 _).far (b := g) (Nat.ne_of_lt hgw') 3 _
      have hE2 : Below w.heap.size w ((wt.setCell ⟨g, 2, none⟩ (.int .i64 (x2 % 30))).setCell ⟨g, 3, none⟩ (.int .i64 (x2 % 30 + x3 % 30))) := (hE.setCell (by simpa using hgw) _).setCell (by simpa using hgw) _
      clear hE hA' hX'
      go_wp2
      go_roundw
      case rel => exact ⟨.inr (.inr (.inl ⟨by go_num, hA2⟩)), hX2, hE2⟩
      case measure => simp [intOf]
    · have v0 := hX.cell 4
      have v1 := hX.cell 5
      simp at v0 v1
      have a0 := hA.cell 4
      have a1 := hA.cell 5
      simp at a0 a1
      have kv0 := cell_regrown v0
      have kv1 := cell_regrown v1
      have ka0 := cell_regrown a0
      have ka1 := cell_regrown a1
      have cS := fun (x y : Int) d os => Calls.regrown_of (span_any x y (grow (redrawn wr d) os))
      go_wp2_with fail
      refine wp_region_below_tail 23 (by kernel_rfl) (by kernel_rfl) (by kernel_rfl) ?_
      simp only [List.take_succ_cons, List.take_zero, List.drop_succ_cons, List.drop_zero]
      repeat (go_big_quiet_step (with_reducible exact cS _ _ _ _))
      refine wpQuiet_nil ?_
      intro _ hw'
      obtain ⟨⟨dq, osq⟩, hw''⟩ := hw'
      subst hw''
      have hE := hB.trans ((below_regrown wr dq osq).mono hB.size)
      have hA' := hA.keep (below_regrown wr dq osq) hA.inside
      have hX' := hX.keep (below_regrown wr dq osq) hX.inside
      clear cS kv0 kv1 ka0 ka1 a0 a1 v0 v1 hB hA hX
      generalize grow (redrawn wr dq) osq = wt at *
      have a0 := hA'.cell 4
      have a1 := hA'.cell 5
      simp at a0 a1
      have fa0 := hA'.free 4
      have fa1 := hA'.free 5
      have hA2 : At ((wt.setCell ⟨g, 4, none⟩ (.int .i64 (x4 % 30))).setCell ⟨g, 5, none⟩ (.int .i64 (x4 % 30 + x5 % 30))) g 37 #[.int .i64 (x0 % 30), .int .i64 (x0 % 30 + x1 % 30), .int .i64 (x2 % 30), .int .i64 (x2 % 30 + x3 % 30), .int .i64 (x4 % 30), .int .i64 (x4 % 30 + x5 % 30)] := by
        have := (hA'.put 4 (.int .i64 (x4 % 30))).put 5 (.int .i64 (x4 % 30 + x5 % 30))
        simpa using this
      have hX2 : At ((wt.setCell ⟨g, 4, none⟩ (.int .i64 (x4 % 30))).setCell ⟨g, 5, none⟩ (.int .i64 (x4 % 30 + x5 % 30))) w.heap.size 36 #[.int .u8 x0, .int .u8 x1, .int .u8 x2, .int .u8 x3, .int .u8 x4, .int .u8 x5] := (hX'.far (b := g) (Nat.ne_of_lt hgw') 4 _).far (b := g) (Nat.ne_of_lt hgw') 5 _
      have hE2 : Below w.heap.size w ((wt.setCell ⟨g, 4, none⟩ (.int .i64 (x4 % 30))).setCell ⟨g, 5, none⟩ (.int .i64 (x4 % 30 + x5 % 30))) := (hE.setCell (by simpa using hgw) _).setCell (by simpa using hgw) _
      clear hE hA' hX'
      go_wp2
      go_roundw
      case rel => exact ⟨.inr (.inr (.inr ⟨by go_num, hA2⟩)), hX2, hE2⟩
      case measure => simp [intOf]
    · clear hX hgw hgw'
      have b00 : 0 ≤ x0 % 30 := by omega
      have b01 : x0 % 30 ≤ x0 % 30 + x1 % 30 := by omega
      have b02 : x0 % 30 + x1 % 30 ≤ 58 := by omega
      have b10 : 0 ≤ x2 % 30 := by omega
      have b11 : x2 % 30 ≤ x2 % 30 + x3 % 30 := by omega
      have b12 : x2 % 30 + x3 % 30 ≤ 58 := by omega
      have b20 : 0 ≤ x4 % 30 := by omega
      have b21 : x4 % 30 ≤ x4 % 30 + x5 % 30 := by omega
      have b22 : x4 % 30 + x5 % 30 ≤ 58 := by omega
      generalize x0 % 30 + x1 % 30 = b at *
      generalize x0 % 30 = a at *
      generalize x2 % 30 + x3 % 30 = d at *
      generalize x2 % 30 = c at *
      generalize x4 % 30 + x5 % 30 = f at *
      generalize x4 % 30 = e at *
      clear hx00 hx01 hx10 hx11 hx20 hx21 hx30 hx31 hx40 hx41 hx50 hx51
      obtain ⟨k1, k2, k3⟩ := meet_comm a b c d
      have k4 := meet_three a b c d e f
      have k5 := has_meet a b c d
      obtain ⟨O, hO⟩ : ∃ O, meetB a b c d = O := ⟨_, rfl⟩
      obtain ⟨PE, hPE⟩ : ∃ O, meetE a b c d = O := ⟨_, rfl⟩
      obtain ⟨PL, hPL⟩ : ∃ O, meetL a b c d = O := ⟨_, rfl⟩
      obtain ⟨H, hH⟩ : ∃ O, meetB c d e f = O := ⟨_, rfl⟩
      obtain ⟨SE, hSE⟩ : ∃ O, meetE c d e f = O := ⟨_, rfl⟩
      obtain ⟨SL, hSL⟩ : ∃ O, meetL c d e f = O := ⟨_, rfl⟩
      simp only [hO, hPE, hPL] at k1 k2 k3 k4 k5
      simp only [hH, hSE, hSL] at k4
      obtain ⟨F, hF⟩ : ∃ O, meetB PE PL e f = O := ⟨_, rfl⟩
      obtain ⟨LE, hLE⟩ : ∃ O, meetE PE PL e f = O := ⟨_, rfl⟩
      obtain ⟨LL, hLL⟩ : ∃ O, meetL PE PL e f = O := ⟨_, rfl⟩
      obtain ⟨G, hG⟩ : ∃ O, meetB a b SE SL = O := ⟨_, rfl⟩
      obtain ⟨GE, hGE⟩ : ∃ O, meetE a b SE SL = O := ⟨_, rfl⟩
      obtain ⟨GL, hGL⟩ : ∃ O, meetL a b SE SL = O := ⟨_, rfl⟩
      simp only [hF, hLE, hLL, hG, hGE, hGL] at k4
      have K := Lib.hid (And.intro k4 k5)
      have M1 := Lib.hid (And.intro hO (And.intro hPE hPL))
      have M2 := Lib.hid (And.intro k1 (And.intro k2 k3))
      have M3 := Lib.hid (And.intro hH (And.intro hSE hSL))
      have M4 := Lib.hid (And.intro hF (And.intro hLE hLL))
      have M5 := Lib.hid (And.intro hG (And.intro hGE hGL))
      clear k1 k2 k3 k4 k5 hO hPE hPL hH hSE hSL hF hLE hLL hG hGE hGL
      have hA_0 := hA
      have hB_0 := hB
      clear hA hB
      have v0 := hA_0.cell 0
      have v1 := hA_0.cell 1
      have v2 := hA_0.cell 2
      have v3 := hA_0.cell 3
      simp at v0 v1 v2 v3
      go_wp2_with fail
      refine (Meet_any _ _ _ _ _).mono ?_
      rintro er qw1 ⟨rfl, hb1⟩
      rw [M1.out.1, M1.out.2.1, M1.out.2.2]
      have hB_0_ := hB_0.trans (hb1.mono hB_0.size)
      have hA_0_ := hA_0.keep hb1 hA_0.inside
      clear hb1 hB_0 hA_0 v0 v1 v2 v3
      have hB_1 := hB_0_.alloc hB_0_.size (.cells #[.int .i64 PE, .int .i64 PL] 23)
      have hA_1 := hA_0_.alloc (.cells #[.int .i64 PE, .int .i64 PL] 23)
      have hP_1 := At.new qw1 23 #[.int .i64 PE, .int .i64 PL]
      clear hB_0_ hA_0_
      have v2 := hA_1.cell 2
      have v3 := hA_1.cell 3
      have v0 := hA_1.cell 0
      have v1 := hA_1.cell 1
      simp at v2 v3 v0 v1
      go_wp2_with fail
      generalize (qw1.alloc (.cells #[.int .i64 PE, .int .i64 PL] 23)) = y1 at *
      generalize qw1.heap.size = gP at *
      refine (Meet_any _ _ _ _ _).mono ?_
      rintro er qw2 ⟨rfl, hb2⟩
      rw [M2.out.1, M2.out.2.1, M2.out.2.2]
      have hB_1_ := hB_1.trans (hb2.mono hB_1.size)
      have hA_1_ := hA_1.keep hb2 hA_1.inside
      have hP_1_ := hP_1.keep hb2 hP_1.inside
      clear hb2 hB_1 hA_1 hP_1 v2 v3 v0 v1
      have hB_2 := hB_1_.alloc hB_1_.size (.cells #[.int .i64 PE, .int .i64 PL] 23)
      have hA_2 := hA_1_.alloc (.cells #[.int .i64 PE, .int .i64 PL] 23)
      have hR_2 := At.new qw2 23 #[.int .i64 PE, .int .i64 PL]
      have hP_2 := hP_1_.alloc (.cells #[.int .i64 PE, .int .i64 PL] 23)
      clear hB_1_ hA_1_ hP_1_
      have v2 := hA_2.cell 2
      have v3 := hA_2.cell 3
      have v4 := hA_2.cell 4
      have v5 := hA_2.cell 5
      simp at v2 v3 v4 v5
      go_wp2_with fail
      generalize (qw2.alloc (.cells #[.int .i64 PE, .int .i64 PL] 23)) = y2 at *
      generalize qw2.heap.size = gR at *
      refine (Meet_any _ _ _ _ _).mono ?_
      rintro er qw3 ⟨rfl, hb3⟩
      rw [M3.out.1, M3.out.2.1, M3.out.2.2]
      have hB_2_ := hB_2.trans (hb3.mono hB_2.size)
      have hA_2_ := hA_2.keep hb3 hA_2.inside
      have hP_2_ := hP_2.keep hb3 hP_2.inside
      have hR_2_ := hR_2.keep hb3 hR_2.inside
      clear hb3 hB_2 hA_2 hP_2 hR_2 v2 v3 v4 v5
      have hB_3 := hB_2_.alloc hB_2_.size (.cells #[.int .i64 SE, .int .i64 SL] 23)
      have hA_3 := hA_2_.alloc (.cells #[.int .i64 SE, .int .i64 SL] 23)
      have hS_3 := At.new qw3 23 #[.int .i64 SE, .int .i64 SL]
      have hP_3 := hP_2_.alloc (.cells #[.int .i64 SE, .int .i64 SL] 23)
      have hR_3 := hR_2_.alloc (.cells #[.int .i64 SE, .int .i64 SL] 23)
      clear hB_2_ hA_2_ hP_2_ hR_2_
      have v4 := hA_3.cell 4
      have v5 := hA_3.cell 5
      simp at v4 v5
      have p0 := hP_3.cell 0
      have p1 := hP_3.cell 1
      simp at p0 p1
      go_wp2_with fail
      generalize (qw3.alloc (.cells #[.int .i64 SE, .int .i64 SL] 23)) = y3 at *
      generalize qw3.heap.size = gS at *
      refine (Meet_any _ _ _ _ _).mono ?_
      rintro er qw4 ⟨rfl, hb4⟩
      rw [M4.out.1, M4.out.2.1, M4.out.2.2]
      have hB_3_ := hB_3.trans (hb4.mono hB_3.size)
      have hA_3_ := hA_3.keep hb4 hA_3.inside
      have hP_3_ := hP_3.keep hb4 hP_3.inside
      have hR_3_ := hR_3.keep hb4 hR_3.inside
      have hS_3_ := hS_3.keep hb4 hS_3.inside
      clear hb4 hB_3 hA_3 hP_3 hR_3 hS_3 v4 v5 p0 p1
      have hB_4 := hB_3_.alloc hB_3_.size (.cells #[.int .i64 LE, .int .i64 LL] 23)
      have hA_4 := hA_3_.alloc (.cells #[.int .i64 LE, .int .i64 LL] 23)
      have hL_4 := At.new qw4 23 #[.int .i64 LE, .int .i64 LL]
      have hP_4 := hP_3_.alloc (.cells #[.int .i64 LE, .int .i64 LL] 23)
      have hR_4 := hR_3_.alloc (.cells #[.int .i64 LE, .int .i64 LL] 23)
      have hS_4 := hS_3_.alloc (.cells #[.int .i64 LE, .int .i64 LL] 23)
      clear hB_3_ hA_3_ hP_3_ hR_3_ hS_3_
      have v0 := hA_4.cell 0
      have v1 := hA_4.cell 1
      simp at v0 v1
      have s0 := hS_4.cell 0
      have s1 := hS_4.cell 1
      simp at s0 s1
      go_wp2_with fail
      generalize (qw4.alloc (.cells #[.int .i64 LE, .int .i64 LL] 23)) = y4 at *
      generalize qw4.heap.size = gL at *
      refine (Meet_any _ _ _ _ _).mono ?_
      rintro er qw5 ⟨rfl, hb5⟩
      rw [M5.out.1, M5.out.2.1, M5.out.2.2]
      have hB_4_ := hB_4.trans (hb5.mono hB_4.size)
      have hA_4_ := hA_4.keep hb5 hA_4.inside
      have hP_4_ := hP_4.keep hb5 hP_4.inside
      have hR_4_ := hR_4.keep hb5 hR_4.inside
      have hS_4_ := hS_4.keep hb5 hS_4.inside
      have hL_4_ := hL_4.keep hb5 hL_4.inside
      clear hb5 hB_4 hA_4 hP_4 hR_4 hS_4 hL_4 v0 v1 s0 s1
      have hB_5 := hB_4_.alloc hB_4_.size (.cells #[.int .i64 GE, .int .i64 GL] 23)
      have hA_5 := hA_4_.alloc (.cells #[.int .i64 GE, .int .i64 GL] 23)
      have hG_5 := At.new qw5 23 #[.int .i64 GE, .int .i64 GL]
      have hP_5 := hP_4_.alloc (.cells #[.int .i64 GE, .int .i64 GL] 23)
      have hR_5 := hR_4_.alloc (.cells #[.int .i64 GE, .int .i64 GL] 23)
      have hS_5 := hS_4_.alloc (.cells #[.int .i64 GE, .int .i64 GL] 23)
      have hL_5 := hL_4_.alloc (.cells #[.int .i64 GE, .int .i64 GL] 23)
      clear hB_4_ hA_4_ hP_4_ hR_4_ hS_4_ hL_4_
      go_upto_region 13 with fail
      generalize (qw5.alloc (.cells #[.int .i64 GE, .int .i64 GL] 23)) = y5 at *
      generalize qw5.heap.size = gG at *
      have py0 := hP_5.cell 0
      have py1 := hP_5.cell 1
      have ry0 := hR_5.cell 0
      have ry1 := hR_5.cell 1
      have ly0 := hL_5.cell 0
      have ly1 := hL_5.cell 1
      have gy0 := hG_5.cell 0
      have gy1 := hG_5.cell 1
      simp at py0 py1 ry0 ry1 ly0 ly1 gy0 gy1
      go_cut [117] from 88 (fun s117 wx => s117 = .bool false ∧ wx = y5)
      case first =>
        have k4 := K.out.1
        clear K M1 M2 M3 M4 M5
        cases O <;> cases F <;> cases H <;> cases G <;> first
          | exact absurd k4.1 (by decide)
          | (obtain ⟨rfl, rfl⟩ := k4.2 rfl
             clear k4
             go_wp2_with fail
             go_meet
             exact ⟨rfl, rfl⟩)
          | (clear k4
             go_wp2_with fail
             go_meet
             exact ⟨rfl, rfl⟩)
      case rest =>
        obtain ⟨rfl, rfl⟩ := hcut
        clear py0 py1 ry0 ry1 ly0 ly1 gy0 gy1 hR_5 hS_5 hL_5 hG_5 M1 M2 M3 M4 M5
        have k5 := K.out.2
        have k5' := Lib.hid k5
        clear k5 K
        have okA : okB a b = true := (okB_iff _ _).2 ⟨b00, b01, by omega⟩
        have hAi := hA_5.inside
        have hPi := hP_5.inside
        go_wp2_with fail
        go_loopw [17] (fun i wr => ∃ k : Nat, k ≤ 62 ∧ i = .int .i64 k ∧ Below wc.heap.size wc wr) (fun i _ => 62 - (intOf i).toNat)
        case atStart => exact ⟨0, by omega, rfl, Below.refl _ _⟩
        case round =>
          obtain ⟨k, hk, rfl, hb⟩ := hrel
          by_cases hlt : k < 62
          · have t3 : decide ((k : Int) < 62) = true := by rw [decide_eq_true_eq]; omega
            have hA := hA_5.keep hb hAi
            have hP := hP_5.keep hb hPi
            have k6 := k5'.out k
            clear k5'
            cases e1 : hasB a b k <;> cases e2 : hasB c d k <;> cases O <;> cases e3 : hasB PE PL k <;> rw [e1, e2, e3] at k6 <;> first
              | exact absurd k6 (by decide)
              | skip
            all_goals clear k6
            · skip
              have v0 := hA.cell 0
              have v1 := hA.cell 1
              simp at v0 v1
              go_wp2_with fail
              refine (Has_any _ _ _ _).mono ?_
              rintro er wa ⟨rfl, hbwa⟩
              rw [e1]
              have hcwa := hb.trans (hbwa.mono hb.size)
              have hAwa := hA.keep hbwa hA.inside
              have hPwa := hP.keep hbwa hP.inside
              clear hbwa v0 v1
              clear hAwa hPwa e1 e2 e3
              go_wp2
              go_roundw
              case rel => exact ⟨k + 1, by omega, by go_num, hcwa⟩
              case measure => simp [intOf]; omega
            · skip
              have v0 := hA.cell 0
              have v1 := hA.cell 1
              simp at v0 v1
              go_wp2_with fail
              refine (Has_any _ _ _ _).mono ?_
              rintro er wa ⟨rfl, hbwa⟩
              rw [e1]
              have hcwa := hb.trans (hbwa.mono hb.size)
              have hAwa := hA.keep hbwa hA.inside
              have hPwa := hP.keep hbwa hP.inside
              clear hbwa v0 v1
              clear hAwa hPwa e1 e2 e3
              go_wp2
              go_roundw
              case rel => exact ⟨k + 1, by omega, by go_num, hcwa⟩
              case measure => simp [intOf]; omega
            · skip
              have v0 := hA.cell 0
              have v1 := hA.cell 1
              simp at v0 v1
              go_wp2_with fail
              refine (Has_any _ _ _ _).mono ?_
              rintro er wa ⟨rfl, hbwa⟩
              rw [e1]
              have hcwa := hb.trans (hbwa.mono hb.size)
              have hAwa := hA.keep hbwa hA.inside
              have hPwa := hP.keep hbwa hP.inside
              clear hbwa v0 v1
              have p0 := hPwa.cell 0
              have p1 := hPwa.cell 1
              simp at p0 p1
              go_wp2_with fail
              refine (Has_any _ _ _ _).mono ?_
              rintro er wd ⟨rfl, hbwd⟩
              rw [e3]
              have hcwd := hcwa.trans (hbwd.mono hcwa.size)
              have hAwd := hAwa.keep hbwd hAwa.inside
              have hPwd := hPwa.keep hbwd hPwa.inside
              clear hbwd p0 p1
              clear hAwd hPwd e1 e2 e3
              go_wp2
              go_roundw
              case rel => exact ⟨k + 1, by omega, by go_num, hcwd⟩
              case measure => simp [intOf]; omega
            · skip
              have v0 := hA.cell 0
              have v1 := hA.cell 1
              simp at v0 v1
              go_wp2_with fail
              refine (Has_any _ _ _ _).mono ?_
              rintro er wa ⟨rfl, hbwa⟩
              rw [e1]
              have hcwa := hb.trans (hbwa.mono hb.size)
              have hAwa := hA.keep hbwa hA.inside
              have hPwa := hP.keep hbwa hP.inside
              clear hbwa v0 v1
              clear hAwa hPwa e1 e2 e3
              go_wp2
              go_roundw
              case rel => exact ⟨k + 1, by omega, by go_num, hcwa⟩
              case measure => simp [intOf]; omega
            · skip
              have v0 := hA.cell 0
              have v1 := hA.cell 1
              simp at v0 v1
              go_wp2_with fail
              refine (Has_any _ _ _ _).mono ?_
              rintro er wa ⟨rfl, hbwa⟩
              rw [e1]
              have hcwa := hb.trans (hbwa.mono hb.size)
              have hAwa := hA.keep hbwa hA.inside
              have hPwa := hP.keep hbwa hP.inside
              clear hbwa v0 v1
              clear hAwa hPwa e1 e2 e3
              go_wp2
              go_roundw
              case rel => exact ⟨k + 1, by omega, by go_num, hcwa⟩
              case measure => simp [intOf]; omega
            · skip
              have v0 := hA.cell 0
              have v1 := hA.cell 1
              simp at v0 v1
              go_wp2_with fail
              refine (Has_any _ _ _ _).mono ?_
              rintro er wa ⟨rfl, hbwa⟩
              rw [e1]
              have hcwa := hb.trans (hbwa.mono hb.size)
              have hAwa := hA.keep hbwa hA.inside
              have hPwa := hP.keep hbwa hP.inside
              clear hbwa v0 v1
              have p0 := hPwa.cell 0
              have p1 := hPwa.cell 1
              simp at p0 p1
              go_wp2_with fail
              refine (Has_any _ _ _ _).mono ?_
              rintro er wd ⟨rfl, hbwd⟩
              rw [e3]
              have hcwd := hcwa.trans (hbwd.mono hcwa.size)
              have hAwd := hAwa.keep hbwd hAwa.inside
              have hPwd := hPwa.keep hbwd hPwa.inside
              clear hbwd p0 p1
              clear hAwd hPwd e1 e2 e3
              go_wp2
              go_roundw
              case rel => exact ⟨k + 1, by omega, by go_num, hcwd⟩
              case measure => simp [intOf]; omega
            · skip
              have v0 := hA.cell 0
              have v1 := hA.cell 1
              simp at v0 v1
              go_wp2_with fail
              refine (Has_any _ _ _ _).mono ?_
              rintro er wa ⟨rfl, hbwa⟩
              rw [e1]
              have hcwa := hb.trans (hbwa.mono hb.size)
              have hAwa := hA.keep hbwa hA.inside
              have hPwa := hP.keep hbwa hP.inside
              clear hbwa v0 v1
              have v2 := hAwa.cell 2
              have v3 := hAwa.cell 3
              simp at v2 v3
              go_wp2_with fail
              refine (Has_any _ _ _ _).mono ?_
              rintro er wb ⟨rfl, hbwb⟩
              rw [e2]
              have hcwb := hcwa.trans (hbwb.mono hcwa.size)
              have hAwb := hAwa.keep hbwb hAwa.inside
              have hPwb := hPwa.keep hbwb hPwa.inside
              clear hbwb v2 v3
              clear hAwb hPwb e1 e2 e3
              go_wp2
              go_roundw
              case rel => exact ⟨k + 1, by omega, by go_num, hcwb⟩
              case measure => simp [intOf]; omega
            · skip
              have v0 := hA.cell 0
              have v1 := hA.cell 1
              simp at v0 v1
              go_wp2_with fail
              refine (Has_any _ _ _ _).mono ?_
              rintro er wa ⟨rfl, hbwa⟩
              rw [e1]
              have hcwa := hb.trans (hbwa.mono hb.size)
              have hAwa := hA.keep hbwa hA.inside
              have hPwa := hP.keep hbwa hP.inside
              clear hbwa v0 v1
              have v2 := hAwa.cell 2
              have v3 := hAwa.cell 3
              simp at v2 v3
              go_wp2_with fail
              refine (Has_any _ _ _ _).mono ?_
              rintro er wb ⟨rfl, hbwb⟩
              rw [e2]
              have hcwb := hcwa.trans (hbwb.mono hcwa.size)
              have hAwb := hAwa.keep hbwb hAwa.inside
              have hPwb := hPwa.keep hbwb hPwa.inside
              clear hbwb v2 v3
              clear hAwb hPwb e1 e2 e3
              go_wp2
              go_roundw
              case rel => exact ⟨k + 1, by omega, by go_num, hcwb⟩
              case measure => simp [intOf]; omega
            · skip
              have v0 := hA.cell 0
              have v1 := hA.cell 1
              simp at v0 v1
              go_wp2_with fail
              refine (Has_any _ _ _ _).mono ?_
              rintro er wa ⟨rfl, hbwa⟩
              rw [e1]
              have hcwa := hb.trans (hbwa.mono hb.size)
              have hAwa := hA.keep hbwa hA.inside
              have hPwa := hP.keep hbwa hP.inside
              clear hbwa v0 v1
              have v2 := hAwa.cell 2
              have v3 := hAwa.cell 3
              simp at v2 v3
              go_wp2_with fail
              refine (Has_any _ _ _ _).mono ?_
              rintro er wb ⟨rfl, hbwb⟩
              rw [e2]
              have hcwb := hcwa.trans (hbwb.mono hcwa.size)
              have hAwb := hAwa.keep hbwb hAwa.inside
              have hPwb := hPwa.keep hbwb hPwa.inside
              clear hbwb v2 v3
              have p0 := hPwb.cell 0
              have p1 := hPwb.cell 1
              simp at p0 p1
              go_wp2_with fail
              refine (Has_any _ _ _ _).mono ?_
              rintro er wd ⟨rfl, hbwd⟩
              rw [e3]
              have hcwd := hcwb.trans (hbwd.mono hcwb.size)
              have hAwd := hAwb.keep hbwd hAwb.inside
              have hPwd := hPwb.keep hbwd hPwb.inside
              clear hbwd p0 p1
              clear hAwd hPwd e1 e2 e3
              go_wp2
              go_roundw
              case rel => exact ⟨k + 1, by omega, by go_num, hcwd⟩
              case measure => simp [intOf]; omega
            · skip
              have v0 := hA.cell 0
              have v1 := hA.cell 1
              simp at v0 v1
              go_wp2_with fail
              refine (Has_any _ _ _ _).mono ?_
              rintro er wa ⟨rfl, hbwa⟩
              rw [e1]
              have hcwa := hb.trans (hbwa.mono hb.size)
              have hAwa := hA.keep hbwa hA.inside
              have hPwa := hP.keep hbwa hP.inside
              clear hbwa v0 v1
              have v2 := hAwa.cell 2
              have v3 := hAwa.cell 3
              simp at v2 v3
              go_wp2_with fail
              refine (Has_any _ _ _ _).mono ?_
              rintro er wb ⟨rfl, hbwb⟩
              rw [e2]
              have hcwb := hcwa.trans (hbwb.mono hcwa.size)
              have hAwb := hAwa.keep hbwb hAwa.inside
              have hPwb := hPwa.keep hbwb hPwa.inside
              clear hbwb v2 v3
              have p0 := hPwb.cell 0
              have p1 := hPwb.cell 1
              simp at p0 p1
              go_wp2_with fail
              refine (Has_any _ _ _ _).mono ?_
              rintro er wd ⟨rfl, hbwd⟩
              rw [e3]
              have hcwd := hcwb.trans (hbwd.mono hcwb.size)
              have hAwd := hAwb.keep hbwd hAwb.inside
              have hPwd := hPwb.keep hbwd hPwb.inside
              clear hbwd p0 p1
              clear hAwd hPwd e1 e2 e3
              go_wp2
              go_roundw
              case rel => exact ⟨k + 1, by omega, by go_num, hcwd⟩
              case measure => simp [intOf]; omega
          · obtain rfl : k = 62 := by omega
            have hA := hA_5.keep hb hAi
            have hB := hB_5.trans (hb.mono hB_5.size)
            clear hA_5 hP_5 hB_5 hb k5' hAi hPi
            obtain ⟨m1, m2, m3⟩ := meet_self okA
            generalize wr = wz at *
            have v0 := hA.cell 0
            have v1 := hA.cell 1
            simp at v0 v1
            go_wp2_with fail
            refine (Meet_any _ _ _ _ _).mono ?_
            rintro er wa ⟨rfl, hba⟩
            rw [m1, m2, m3]
            have hBa := hB.trans (hba.mono hB.size)
            have hAa := hA.keep hba hA.inside
            clear hA hB hba v0 v1 m1 m2 m3
            have hBb := hBa.alloc hBa.size (.cells #[.int .i64 a, .int .i64 b] 23)
            have hAb := hAa.alloc (.cells #[.int .i64 a, .int .i64 b] 23)
            have hOb := At.new wa 23 #[.int .i64 a, .int .i64 b]
            clear hAa hBa
            go_upto_region 22 with fail
            generalize (wa.alloc (.cells #[.int .i64 a, .int .i64 b] 23)) = wb at *
            generalize wa.heap.size = go_ at *
            have v0 := hAb.cell 0
            have v1 := hAb.cell 1
            simp at v0 v1
            have p0 := hOb.cell 0
            have p1 := hOb.cell 1
            simp at p0 p1
            have kv0 := cell_regrown v0
            have kv1 := cell_regrown v1
            have kp0 := cell_regrown p0
            have kp1 := cell_regrown p1
            obtain ⟨V, hV⟩ : ∃ V, hasB a b t = V := ⟨_, rfl⟩
            have hV2 : V = (decide (t ≥ a) && decide (t ≤ b)) := by
              rw [← hV, hasB, okA]
              rfl
            have cV : ∀ W, Calls Try.prog 15 #[.agg #[.int .i64 a, .int .i64 b], .int .i64 t] W fun r w' => r = .returned (.bool V) ∧ Below W.heap.size W w' := fun W => by
              have := Has_any a b t W
              rwa [hV] at this
            clear hV okA
            have cH := fun d os => Calls.regrown_of (cV (grow (redrawn wb d) os))
            clear cV
            cases hta : decide (t ≥ a)
            · rw [hta] at hV2
              simp only [Bool.false_and] at hV2
              subst hV2
              refine wp_region_quiet_below (by kernel_rfl) (by kernel_rfl) ?_
              repeat (go_big_quiet_step (with_reducible exact cH _ _))
              refine wpQuiet_nil ?_
              intro _ hw'
              obtain ⟨⟨dq, osq⟩, hw''⟩ := hw'
              subst hw''
              have hE := hBb.trans ((below_regrown wb dq osq).mono hBb.size)
              clear cH kv0 kv1 kp0 kp1 v0 v1 p0 p1
              go_wp2
              go_ret
              exact ⟨rfl, hE⟩
            · rw [hta] at hV2
              simp only [Bool.true_and] at hV2
              subst hV2
              refine wp_region_quiet_below (by kernel_rfl) (by kernel_rfl) ?_
              repeat (go_big_quiet_step (with_reducible exact cH _ _))
              refine wpQuiet_nil ?_
              intro _ hw'
              obtain ⟨⟨dq, osq⟩, hw''⟩ := hw'
              subst hw''
              have hE := hBb.trans ((below_regrown wb dq osq).mono hBb.size)
              clear cH kv0 kv1 kp0 kp1 v0 v1 p0 p1
              go_wp2
              go_ret
              exact ⟨rfl, hE⟩
set_option maxRecDepth 100000 in
theorem lifted (os : Os) (started : os.Started) (H : Type) (enc : TypeId × Value → H) :
    ReturnsInHanded {} Try.checked os 4 .any (Rows.windowMeetsSpec.pre6 enc Try.prog Try.f4 Rows.windowMeetsRow.domain false) (Rows.windowMeetsSpec.post enc Try.prog Try.f4 false true false false) := by
  refine returnsInHanded_of_change (C := Try.checked) own started (by kernel_rfl) Try.func4
    (ChangeSpec.witness6 (enc := enc) (C := Try.checked) false ⟨#[], #[.agg #[.int .u8 0, .int .u8 0, .int .u8 0, .int .u8 0, .int .u8 0, .int .u8 0], .int .u8 0], []⟩ 8 (by kernel_rfl) (by kernel_rfl) (by kernel_rfl) (by kernel_rfl)) ?_
  intro W base args ds gs before hval0 hW hcnd _
  have hval : ∀ (j : Nat) t v, Try.f4.params[j]? = some t → args[j]? = some v → Value.okWide Try.prog W .any base t v := hval0
  have hW' := hW
  obtain ⟨p, q, hA0, hV, rfl, hfz, hnd⟩ := hW
  have hA : DataW.TrodAll enc Try.prog W 0 (fun _ => true) true Try.f4.params.toList args.toList ds p := hA0
  rw [Try.params4] at hA hval
  obtain ⟨v0, vs0, d0, ds0, p0, q0, hargs, rfl, rfl, h0, r0⟩ := trodAll_cons hA
  obtain ⟨v1, vs1, d1, ds1, p1, q1, rfl, rfl, rfl, h1, r1⟩ := trodAll_cons r0
  obtain ⟨rfl, rfl, rfl⟩ := trodAll_nil r1
  obtain rfl : args = #[v0, v1] := by cases args; simp_all
  obtain ⟨rfl, rfl⟩ := trodVars_none hV
  obtain ⟨xs0, hl0, hv0, hxs0⟩ := Close.open_numbers Try.underlying36 Try.underlying5 (by kernel_rfl) (by kernel_rfl) (hval 0 36 v0 rfl rfl) h0
  obtain ⟨a0, a1, a2, a3, a4, a5, rfl⟩ : ∃ a b c d e f, xs0 = [a, b, c, d, e, f] := by
    match xs0, hl0 with
    | [a, b, c, d, e, f], _ => exact ⟨a, b, c, d, e, f, rfl⟩
  obtain rfl : v0 = .agg #[.int .u8 a0, .int .u8 a1, .int .u8 a2, .int .u8 a3, .int .u8 a4, .int .u8 a5] := by simpa using hv0
  have wa0 := u8_ends (hxs0 a0 (by simp))
  have wa1 := u8_ends (hxs0 a1 (by simp))
  have wa2 := u8_ends (hxs0 a2 (by simp))
  have wa3 := u8_ends (hxs0 a3 (by simp))
  have wa4 := u8_ends (hxs0 a4 (by simp))
  have wa5 := u8_ends (hxs0 a5 (by simp))
  obtain ⟨n, rfl, rfl, rfl, wn⟩ := open_int Try.underlying5 (hval 1 5 v1 rfl rfl) h1
  exact (walk a0 a1 a2 a3 a4 a5 n wa0 wa1 wa2 wa3 wa4 wa5 (u8_ends wn) W).mono fun e W' ⟨he, hb⟩ => ⟨_, he, Close.law_post laidOut (by kernel_rfl) rfl (by kernel_rfl) Try.underlying4 hW' rfl hb⟩

theorem over : Rows.windowMeetsRow.holds Try.pinned (OpenSpec.ofChange Rows.windowMeetsSpec) :=
  OpenClaim.holds_of_wide 4 Try.f4 rfl rfl rfl rfl rfl rfl rfl ⟨rfl, rfl, rfl, rfl, rfl⟩ rfl rfl rfl rfl rfl (by kernel_rfl) Try.func4 (by kernel_rfl)
    (of_decide_eq_true (by kernel_rfl)) (by unfold Func.isWrapper; first | (rw [if_pos (by decide +kernel)]; kernel_rfl) | (rw [if_neg (by decide +kernel)]; exact ⟨rfl, rfl⟩))
    (fun os started H enc _ => lifted os started H enc)

theorem proved : Rows.WindowMeetsSaid := over
#print axioms proved

end Go.Proofs.Ytljpcicahhfkpaa.windowMeets
