/-
  consignlaw02.PlaceWays returns true for all two places and parts: a way has one place more than it is far, each a step behind the one ahead, and each part of it is as short. No condition.
-/
import Derived.Test.YtjojdfbjecbhnaaPlaceWorks
import Derived.Test.YtjojdfbjecbhnaaPlaceWaysMath
import Derived.Test.YtjojdfbjecbhnaaTail
import Derived.Test.YtjojdfbjecbhnaaPlaceOpen
import Derived.Test.YtjojdfbjecbhnaaOpen
namespace Go.Proofs.Ytjojdfbjecbhnaa.placeWays
open Go.ChangeShapes Go.WideShapes Go.ChangeAt Go.RowKit Go.Sort Go.Proofs.Ytjojdfbjecbhnaa.Place Go.Proofs.Ytjojdfbjecbhnaa.Mem Go.Proofs.Ytjojdfbjecbhnaa.Tail
set_option linter.unusedVariables false

/-- A number on a side, out of any one. -/
def sideV (n : Int) : Int := n % 18446744073709551616 % 1024
theorem sideV_bd (n : Int) : 0 ≤ sideV n ∧ sideV n < 1024 := by unfold sideV; omega
theorem side_eq (x : Int) : wrap64 ((IntKind.u64.wrap x).tmod 1024) = sideV x := by
  rw [u64_wrap, Int.tmod_eq_emod_of_nonneg (by omega)]
  unfold sideV wrap64
  omega

theorem u16_ends {x : Int} (h : (Lit.int .u16 x).wf = true) : 0 ≤ x ∧ x ≤ 65535 := by
  simp [Lit.wf, IntKind.min, IntKind.max, IntKind.bits, IntKind.signed] at h
  omega

set_option maxRecDepth 100000 in
set_option maxHeartbeats 8000000 in
theorem walk (ax ay bx by_ i0 j0 : Int) (hi : 0 ≤ i0 ∧ i0 ≤ 65535) (hj : 0 ≤ j0 ∧ j0 ≤ 65535) (w : World) :
    Calls Try.prog 6 #[.agg #[.int .i64 ax, .int .i64 ay], .agg #[.int .i64 bx, .int .i64 by_], .agg #[.int .u16 i0, .int .u16 j0]] w fun e w' => e = .returned (.bool true) ∧ Below w.heap.size w w' := by
  have hA0 : At (((w.alloc (.cells #[.int .i64 ax, .int .i64 ay] 23)).alloc (.cells #[.int .i64 bx, .int .i64 by_] 23)).alloc (.cells #[.int .u16 i0, .int .u16 j0] 42)) w.heap.size 23 #[.int .i64 ax, .int .i64 ay] := ((At.new w _ _).alloc _).alloc _
  have hB0 : At (((w.alloc (.cells #[.int .i64 ax, .int .i64 ay] 23)).alloc (.cells #[.int .i64 bx, .int .i64 by_] 23)).alloc (.cells #[.int .u16 i0, .int .u16 j0] 42)) (w.heap.size + 1) 23 #[.int .i64 bx, .int .i64 by_] := (At.new_ _ _ _ (by simp)).alloc _
  have hC0 : At (((w.alloc (.cells #[.int .i64 ax, .int .i64 ay] 23)).alloc (.cells #[.int .i64 bx, .int .i64 by_] 23)).alloc (.cells #[.int .u16 i0, .int .u16 j0] 42)) (w.heap.size + 1 + 1) 42 #[.int .u16 i0, .int .u16 j0] := At.new_ _ _ _ (by simp)
  have hb0 : Below w.heap.size w (((w.alloc (.cells #[.int .i64 ax, .int .i64 ay] 23)).alloc (.cells #[.int .i64 bx, .int .i64 by_] 23)).alloc (.cells #[.int .u16 i0, .int .u16 j0] 42)) := by
    repeat (first | exact Below.refl _ _ | refine Below.alloc ?_ (by simp <;> omega) _)
  go_enter Try.func6, Try.ntmps6
  go_wp2_with fail
  generalize (((w.alloc (.cells #[.int .i64 ax, .int .i64 ay] 23)).alloc (.cells #[.int .i64 bx, .int .i64 by_] 23)).alloc (.cells #[.int .u16 i0, .int .u16 j0] 42)) = w0 at *
  refine (works_any _).mono ?_
  rintro e w1 ⟨rfl, hb1⟩
  have hA1 := hA0.keep hb1 hA0.inside
  have hB1 := hB0.keep hb1 hB0.inside
  have hC1 := hC0.keep hb1 hC0.inside
  have hB := hb0.trans (hb1.mono hb0.size)
  clear hA0 hB0 hC0 hb0 hb1 w0
  have a0 := hA1.cell 0
  have a1 := hA1.cell 1
  have b0 := hB1.cell 0
  have b1 := hB1.cell 1
  simp at a0 a1 b0 b1
  go_wp2_with fail
  have ka0 := cell_regrown a0
  have ka1 := cell_regrown a1
  have kb0 := cell_regrown b0
  have kb1 := cell_regrown b1
  have cA := fun (x y : Int) d os => Calls.regrown_of (at_any x y (grow (redrawn w1 d) os))
  refine wp_region_below_tail 22 (by kernel_rfl) (by kernel_rfl) (by kernel_rfl) ?_
  simp only [List.take_succ_cons, List.take_zero, List.drop_succ_cons, List.drop_zero]
  repeat (go_big_quiet_step (exact cA _ _ _ _))
  refine wpQuiet_nil ?_
  intro _ hw'
  obtain ⟨⟨dq, osq⟩, hw''⟩ := hw'
  subst hw''
  have hA2 := hA1.keep (below_regrown w1 dq osq) hA1.inside
  have hB2 := hB1.keep (below_regrown w1 dq osq) hB1.inside
  have hC2 := hC1.keep (below_regrown w1 dq osq) hC1.inside
  have hBB := hB.trans ((below_regrown w1 dq osq).mono hB.size)
  simp only [side_eq]
  generalize grow (redrawn w1 dq) osq = w2 at *
  clear cA ka0 ka1 kb0 kb1 a0 a1 b0 b1 hA1 hB1 hC1 hB w1
  have rax := sideV_bd ax
  have ray := sideV_bd ay
  have rbx := sideV_bd bx
  have rby := sideV_bd by_
  generalize sideV ax = AX at *
  generalize sideV ay = AY at *
  generalize sideV bx = BX at *
  generalize sideV by_ = BY at *
  have a0 := hA2.cell 0
  have a1 := hA2.cell 1
  have b0 := hB2.cell 0
  have b1 := hB2.cell 1
  simp at a0 a1 b0 b1
  have fa0 := hA2.free 0
  have fa1 := hA2.free 1
  have fb0 := hB2.free 0
  have fb1 := hB2.free 1
  have hA3 : At ((((w2.setCell ⟨w.heap.size, 0, none⟩ (.int .i64 AX)).setCell ⟨w.heap.size, 1, none⟩ (.int .i64 AY)).setCell ⟨w.heap.size + 1, 0, none⟩ (.int .i64 BX)).setCell ⟨w.heap.size + 1, 1, none⟩ (.int .i64 BY)) w.heap.size 23 #[.int .i64 AX, .int .i64 AY] := by
    have := (((hA2.put 0 (.int .i64 AX)).put 1 (.int .i64 AY)).far (b := w.heap.size + 1) (by omega) 0 (.int .i64 BX)).far (b := w.heap.size + 1) (by omega) 1 (.int .i64 BY)
    simpa using this
  have hB3 : At ((((w2.setCell ⟨w.heap.size, 0, none⟩ (.int .i64 AX)).setCell ⟨w.heap.size, 1, none⟩ (.int .i64 AY)).setCell ⟨w.heap.size + 1, 0, none⟩ (.int .i64 BX)).setCell ⟨w.heap.size + 1, 1, none⟩ (.int .i64 BY)) (w.heap.size + 1) 23 #[.int .i64 BX, .int .i64 BY] := by
    have := (((hB2.far (b := w.heap.size) (by omega) 0 (.int .i64 AX)).far (b := w.heap.size) (by omega) 1 (.int .i64 AY)).put 0 (.int .i64 BX)).put 1 (.int .i64 BY)
    simpa using this
  have hC3 : At ((((w2.setCell ⟨w.heap.size, 0, none⟩ (.int .i64 AX)).setCell ⟨w.heap.size, 1, none⟩ (.int .i64 AY)).setCell ⟨w.heap.size + 1, 0, none⟩ (.int .i64 BX)).setCell ⟨w.heap.size + 1, 1, none⟩ (.int .i64 BY)) (w.heap.size + 1 + 1) 42 #[.int .u16 i0, .int .u16 j0] :=
    (((hC2.far (b := w.heap.size) (by omega) 0 (.int .i64 AX)).far (b := w.heap.size) (by omega) 1 (.int .i64 AY)).far (b := w.heap.size + 1) (by omega) 0 (.int .i64 BX)).far (b := w.heap.size + 1) (by omega) 1 (.int .i64 BY)
  have hB4 : Below w.heap.size w ((((w2.setCell ⟨w.heap.size, 0, none⟩ (.int .i64 AX)).setCell ⟨w.heap.size, 1, none⟩ (.int .i64 AY)).setCell ⟨w.heap.size + 1, 0, none⟩ (.int .i64 BX)).setCell ⟨w.heap.size + 1, 1, none⟩ (.int .i64 BY)) :=
    (((hBB.setCell (p := ⟨w.heap.size, 0, none⟩) (by simp) _).setCell (p := ⟨w.heap.size, 1, none⟩) (by simp) _).setCell (p := ⟨w.heap.size + 1, 0, none⟩) (by simp) _).setCell (p := ⟨w.heap.size + 1, 1, none⟩) (by simp) _
  go_wp2_with fail
  generalize ((((w2.setCell ⟨w.heap.size, 0, none⟩ (.int .i64 AX)).setCell ⟨w.heap.size, 1, none⟩ (.int .i64 AY)).setCell ⟨w.heap.size + 1, 0, none⟩ (.int .i64 BX)).setCell ⟨w.heap.size + 1, 1, none⟩ (.int .i64 BY)) = w3 at *
  clear a0 a1 b0 b1 fa0 fa1 fb0 fb1 hA2 hB2 hC2 hBB
  refine (Way_any _ _ _ _ _).mono ?_
  rintro e w4 ⟨⟨v4, rfl, hr⟩, hb4⟩
  have hA4 := hA3.keep hb4 hA3.inside
  have hB4' := hB3.keep hb4 hB3.inside
  have hC4 := hC3.keep hb4 hC3.inside
  have hBB := hB4.trans (hb4.mono hB4.size)
  clear hb4 hA3 hB3 hC3 hB4 w2
  have mA : mayB (AX, AY) = true := (mayB_iff _).2 ⟨rax, ray⟩
  have mB : mayB (BX, BY) = true := (mayB_iff _).2 ⟨rbx, rby⟩
  rw [wayL_yes mA mB] at hr
  obtain ⟨n, hn⟩ : ∃ n, nx (AX, AY) (BX, BY) + ny (AX, AY) (BX, BY) = n := ⟨_, rfl⟩
  have hN : wayN (AX, AY) (BX, BY) = n + 1 := by unfold wayN; omega
  have hd : distV (AX, AY) (BX, BY) = n := by
    have := pt_dist (AX, AY) (BX, BY) mA mB (i := 0) (j := nx (AX, AY) (BX, BY) + ny (AX, AY) (BX, BY)) (by omega) (by omega)
    rw [pt_0, pt_end] at this
    rw [this]
    omega
  have hnb : n ≤ 2046 := by
    have := gap_side rax rbx
    have := gap_side ray rby
    have h1 : nx (AX, AY) (BX, BY) = (gap AX BX).toNat := rfl
    have h2 : ny (AX, AY) (BX, BY) = (gap AY BY).toNat := rfl
    omega
  rw [hN] at hr
  have hmay : ∀ k, mayB (pt (AX, AY) (BX, BY) k) = true := fun k => pt_side _ _ k mA mB
  have hdist : ∀ i j, i ≤ n → j ≤ n → distV (pt (AX, AY) (BX, BY) i) (pt (AX, AY) (BX, BY) j) = ((max i j - min i j : Nat) : Int) := fun i j h1 h2 => pt_dist _ _ mA mB (by omega) (by omega)
  have hnext : ∀ k, k < n → distV (pt (AX, AY) (BX, BY) k) (pt (AX, AY) (BX, BY) (k + 1)) = 1 := fun k h => pt_next _ _ mA mB (by omega)
  have hp0 : pt (AX, AY) (BX, BY) 0 = (AX, AY) := pt_0 _ _
  have hpn : pt (AX, AY) (BX, BY) n = (BX, BY) := by rw [← hn]; exact pt_end _ _
  obtain ⟨g, cap, rfl, hg, hcell⟩ : ∃ g cap, v4 = .slice (some ⟨g, 0, none⟩) (n + 1) cap ∧ g < w4.heap.size ∧ ∀ j, j ≤ n → w4.cell? ⟨g, j * 2, none⟩ = some (.int .i64 (pt (AX, AY) (BX, BY) j).1) ∧ w4.cell? ⟨g, j * 2 + 1, none⟩ = some (.int .i64 (pt (AX, AY) (BX, BY) j).2) := by
    rcases hr with ⟨a, cap, rfl, h0⟩ | ⟨g, cap, rfl, hg, hc⟩
    · have := congrArg List.length h0
      rw [upto_length] at this
      simp at this
    · refine ⟨g, cap, by rw [upto_length], hg, fun j hj => ?_⟩
      have := hc j (by rw [upto_length]; omega)
      rw [upto_get _ _ _ _ (by omega)] at this
      exact this
  obtain ⟨P, hP⟩ : ∃ P : Nat → Int × Int, pt (AX, AY) (BX, BY) = P := ⟨_, rfl⟩
  rw [hP] at hmay hdist hnext hp0 hpn hcell
  have x0 := (hcell 0 (by omega)).1
  have x1 := (hcell 0 (by omega)).2
  have z0 := (hcell n (by omega)).1
  have z1 := (hcell n (by omega)).2
  rw [hp0] at x0 x1
  rw [hpn] at z0 z1
  simp only [Nat.zero_mul, Nat.zero_add] at x0 x1 z0 z1
  have a0 := hA4.cell 0
  have a1 := hA4.cell 1
  have b0 := hB4'.cell 0
  have b1 := hB4'.cell 1
  simp at a0 a1 b0 b1
  clear hP hr hN hn rax ray rbx rby mA mB
  go_wp2_with fail
  have ka0 := cell_regrown a0
  have ka1 := cell_regrown a1
  have kb0 := cell_regrown b0
  have kb1 := cell_regrown b1
  have kx0 := cell_regrown x0
  have kx1 := cell_regrown x1
  have kz0 := cell_regrown z0
  have kz1 := cell_regrown z1
  have cD := fun (x y x' y' : Int) d os => Calls.regrown_of (Dist_any x y x' y' (grow (redrawn w4 d) os))
  have hn0 : (0 : Int) ≤ (n : Int) := by omega
  refine wp_region_quiet_below (by kernel_rfl) (by kernel_rfl) ?_
  repeat (go_big_quiet_step (exact cD _ _ _ _ _ _))
  refine wpQuiet_nil ?_
  intro _ hw'
  obtain ⟨⟨dq5, osq5⟩, hw''⟩ := hw'
  subst hw''
  have hbr := below_regrown w4 dq5 osq5
  have hC5 := hC4.keep hbr hC4.inside
  have hB5 := hBB.trans (hbr.mono hBB.size)
  have hcell5 : ∀ j, j ≤ n → (grow (redrawn w4 dq5) osq5).cell? ⟨g, j * 2, none⟩ = some (.int .i64 (P j).1) ∧ (grow (redrawn w4 dq5) osq5).cell? ⟨g, j * 2 + 1, none⟩ = some (.int .i64 (P j).2) := fun j hj =>
    ⟨(hbr.cell (p := ⟨g, j * 2, none⟩) hg).trans (hcell j hj).1, (hbr.cell (p := ⟨g, j * 2 + 1, none⟩) hg).trans (hcell j hj).2⟩
  have hg5 : g < (grow (redrawn w4 dq5) osq5).heap.size := Nat.lt_of_lt_of_le hg hbr.size
  have hcell' := Lib.hid hcell5
  have hmay' := Lib.hid hmay
  have hdist' := Lib.hid hdist
  have hnext' := Lib.hid hnext
  clear hcell hcell5 hmay hdist hnext cD ka0 ka1 kb0 kb1 kx0 kx1 kz0 kz1 x0 x1 z0 z1 a0 a1 b0 b1 hA4 hB4' hC4 hBB hbr hp0 hpn hd
  generalize grow (redrawn w4 dq5) osq5 = w5 at *
  go_wp2
  go_loopw [8] (fun i wr => ∃ k : Nat, k ≤ n ∧ i = .int .i64 (k + 1) ∧ Below w5.heap.size w5 wr) (fun i _ => (n + 1 - intOf i).toNat)
  case atStart => exact ⟨0, by omega, rfl, Below.refl _ _⟩
  case round =>
    obtain ⟨k, hk, rfl, hb⟩ := hrel
    by_cases hlt : k < n
    · have c1 := hcell'.out k (by omega)
      have c2 := hcell'.out (k + 1) (by omega)
      have hm1 := hmay'.out (k + 1)
      have hd1 := hnext'.out k hlt
      have x0 := (hb.cell (p := ⟨g, k * 2, none⟩) hg5).trans c1.1
      have x1 := (hb.cell (p := ⟨g, k * 2 + 1, none⟩) hg5).trans c1.2
      have z0 := (hb.cell (p := ⟨g, (k + 1) * 2, none⟩) hg5).trans c2.1
      have z1 := (hb.cell (p := ⟨g, (k + 1) * 2 + 1, none⟩) hg5).trans c2.2
      clear c1 c2
      generalize P (k + 1) = Z at *
      generalize P k = X at *
      obtain ⟨X1, X2⟩ := X
      obtain ⟨Z1, Z2⟩ := Z
      simp only at x0 x1 z0 z1
      have hMay : ∀ w, Calls Try.prog 9 #[.agg #[.int .i64 Z1, .int .i64 Z2]] w fun e w' => e = .returned (.bool true) ∧ Below w.heap.size w w' := fun w => by
        have := May_any Z1 Z2 w
        rwa [hm1] at this
      have kx0 := cell_regrown x0
      have kx1 := cell_regrown x1
      have kz0 := cell_regrown z0
      have kz1 := cell_regrown z1
      have cD := fun (x y x' y' : Int) d os => Calls.regrown_of (Dist_any x y x' y' (grow (redrawn wr d) os))
      have cM := fun d os => Calls.regrown_of (hMay (grow (redrawn wr d) os))
      clear hMay hm1
      have k0 : (0 : Int) ≤ (k : Int) := by omega
      have k1 : (k : Int) < n := by omega
      go_wp2
      refine wp_region_quiet_below (by kernel_rfl) (by kernel_rfl) ?_
      repeat (go_big_quiet_step (first | exact cM _ _ | exact cD _ _ _ _ _ _))
      refine wpQuiet_nil ?_
      intro _ hw'
      obtain ⟨⟨dq6, osq6⟩, hw''⟩ := hw'
      subst hw''
      have hb6 := hb.trans ((below_regrown wr dq6 osq6).mono hb.size)
      clear cD cM kx0 kx1 kz0 kz1 x0 x1 z0 z1 hb hd1
      go_wp2
      go_roundw
      case rel => exact ⟨k + 1, by omega, by go_num, hb6⟩
      case measure => simp [intOf]; omega
    · obtain rfl : k = n := by omega
      have hC6 := hC5.keep hb hC5.inside
      have p0 := hC6.cell 0
      have p1 := hC6.cell 1
      simp at p0 p1
      have hi0 : 0 ≤ i0 := hi.1
      have hj0 : 0 ≤ j0 := hj.1
      go_wp2
      go_quiet (fail)
      go_wp2
      obtain ⟨I, hI⟩ : ∃ I : Nat, i0 % ((k : Int) + 1) = I := ⟨(i0 % ((k : Int) + 1)).toNat, by have := Int.emod_nonneg i0 (show (k : Int) + 1 ≠ 0 by omega); omega⟩
      obtain ⟨J, hJ⟩ : ∃ J : Nat, j0 % ((k : Int) + 1) = J := ⟨(j0 % ((k : Int) + 1)).toNat, by have := Int.emod_nonneg j0 (show (k : Int) + 1 ≠ 0 by omega); omega⟩
      have lI : I ≤ k := by have := Int.emod_lt_of_pos i0 (show (0 : Int) < (k : Int) + 1 by omega); omega
      have lJ : J ≤ k := by have := Int.emod_lt_of_pos j0 (show (0 : Int) < (k : Int) + 1 by omega); omega
      simp only [hI, hJ]
      clear hI hJ
      have hb7 := below_drewN hb nq
      have c1 := hcell'.out I lI
      have c2 := hcell'.out J lJ
      have hd1 : distV (P I) (P J) = max (I : Int) J - min (I : Int) J := by
        rw [hdist'.out I J lI lJ]
        omega
      have x0 := (hb7.cell (p := ⟨g, I * 2, none⟩) hg5).trans c1.1
      have x1 := (hb7.cell (p := ⟨g, I * 2 + 1, none⟩) hg5).trans c1.2
      have z0 := (hb7.cell (p := ⟨g, J * 2, none⟩) hg5).trans c2.1
      have z1 := (hb7.cell (p := ⟨g, J * 2 + 1, none⟩) hg5).trans c2.2
      clear c1 c2 p0 p1 hb hC6
      generalize P I = X at *
      generalize P J = Z at *
      obtain ⟨X1, X2⟩ := X
      obtain ⟨Z1, Z2⟩ := Z
      simp only at x0 x1 z0 z1
      generalize wr.drewN nq = wx at *
      have kx0 := cell_regrown x0
      have kx1 := cell_regrown x1
      have kz0 := cell_regrown z0
      have kz1 := cell_regrown z1
      have cD := fun (x y x' y' : Int) d os => Calls.regrown_of (Dist_any x y x' y' (grow (redrawn wx d) os))
      have k0 : (0 : Int) ≤ (I : Int) := by omega
      have k1 : (I : Int) < k + 1 := by omega
      have k2 : (0 : Int) ≤ (J : Int) := by omega
      have k3 : (J : Int) < k + 1 := by omega
      refine wp_region_quiet_below (by kernel_rfl) (by kernel_rfl) ?_
      repeat (go_big_quiet_step (exact cD _ _ _ _ _ _))
      refine wpQuiet_nil ?_
      intro _ hw'
      obtain ⟨⟨dq6, osq6⟩, hw''⟩ := hw'
      subst hw''
      have hb8 := (hB5.trans (hb7.mono hB5.size)).trans ((below_regrown wx dq6 osq6).mono (hB5.trans (hb7.mono hB5.size)).size)
      clear cD kx0 kx1 kz0 kz1 x0 x1 z0 z1
      go_wp2
      go_ret
      exact ⟨ret_bool (by simp), hb8⟩

set_option maxRecDepth 100000 in
theorem lifted (os : Os) (started : os.Started) (H : Type) (enc : TypeId × Value → H) :
    ReturnsInHanded {} Try.checked os 6 .any (Rows.placeWaysSpec.pre6 enc Try.prog Try.f6 Rows.placeWaysRow.domain false) (Rows.placeWaysSpec.post enc Try.prog Try.f6 false true false false) := by
  refine returnsInHanded_of_change (C := Try.checked) own started (by kernel_rfl) Try.func6
    (ChangeSpec.witness6 (enc := enc) (C := Try.checked) false ⟨#[], #[.agg #[.int .i64 0, .int .i64 0], .agg #[.int .i64 0, .int .i64 0], .agg #[.int .u16 0, .int .u16 0]], []⟩ 8 (by kernel_rfl) (by kernel_rfl) (by kernel_rfl) (by kernel_rfl)) ?_
  intro W base args ds gs before hval0 hW hcnd _
  have hval : ∀ (j : Nat) t v, Try.f6.params[j]? = some t → args[j]? = some v → Value.okWide Try.prog W .any base t v := hval0
  have hW' := hW
  obtain ⟨p, q, hA0, hV, rfl, hfz, hnd⟩ := hW
  have hA : DataW.TrodAll enc Try.prog W 0 (fun _ => true) true Try.f6.params.toList args.toList ds p := hA0
  rw [Try.params6] at hA hval
  obtain ⟨v0, vs0, d0, ds0, p0, q0, hargs, rfl, rfl, h0, r0⟩ := trodAll_cons hA
  obtain ⟨v1, vs1, d1, ds1, p1, q1, rfl, rfl, rfl, h1, r1⟩ := trodAll_cons r0
  obtain ⟨v2, vs2, d2, ds2, p2, q2, rfl, rfl, rfl, h2, r2⟩ := trodAll_cons r1
  obtain ⟨rfl, rfl, rfl⟩ := trodAll_nil r2
  obtain rfl : args = #[v0, v1, v2] := by cases args; simp_all
  obtain ⟨rfl, rfl⟩ := trodVars_none hV
  obtain ⟨x0, y0, rfl, wx0, wy0⟩ := openPlace (hval 0 23 v0 rfl rfl) h0
  obtain ⟨x1, y1, rfl, wx1, wy1⟩ := openPlace (hval 1 23 v1 rfl rfl) h1
  obtain ⟨xs, hl, hv2, hxs⟩ := Close.open_numbers Try.underlying42 Try.underlying41 (by kernel_rfl) (by kernel_rfl) (hval 2 42 v2 rfl rfl) h2
  obtain ⟨a, b, rfl⟩ : ∃ a b, xs = [a, b] := by
    match xs, hl with
    | [a, b], _ => exact ⟨a, b, rfl⟩
  obtain rfl : v2 = .agg #[.int .u16 a, .int .u16 b] := by simpa using hv2
  have ha := u16_ends (hxs a (by simp))
  have hb := u16_ends (hxs b (by simp))
  exact (walk x0 y0 x1 y1 a b ha hb W).mono fun e W' ⟨he, hb⟩ => ⟨_, he, Close.law_post laidOut (by kernel_rfl) rfl (by kernel_rfl) Try.underlying4 hW' rfl hb⟩

theorem over : Rows.placeWaysRow.holds Try.pinned (OpenSpec.ofChange Rows.placeWaysSpec) :=
  OpenClaim.holds_of_wide 6 Try.f6 rfl rfl rfl rfl rfl rfl rfl ⟨rfl, rfl, rfl, rfl, rfl⟩ rfl rfl rfl rfl rfl (by kernel_rfl) Try.func6 (by kernel_rfl)
    (of_decide_eq_true (by kernel_rfl)) (by unfold Func.isWrapper; first | (rw [if_pos (by decide +kernel)]; kernel_rfl) | (rw [if_neg (by decide +kernel)]; exact ⟨rfl, rfl⟩))
    (fun os started H enc _ => lifted os started H enc)

theorem proved : Rows.PlaceWaysSaid := over
#print axioms proved

end Go.Proofs.Ytjojdfbjecbhnaa.placeWays
