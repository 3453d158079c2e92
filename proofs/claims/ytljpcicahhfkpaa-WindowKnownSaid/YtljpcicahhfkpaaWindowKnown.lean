/-
  consignlaw03.WindowKnown returns true: the chapter's examples of window; windows that may not be; the greatest times. No condition: it has no arguments.
-/
import Derived.Test.YtljpcicahhfkpaaWindowWorks
import Derived.Test.YtljpcicahhfkpaaWindowOpen
import Derived.Deep.CutRange
namespace Go.Proofs.Ytljpcicahhfkpaa.windowKnown
open Go.ChangeShapes Go.WideShapes Go.ChangeAt Go.RowKit Go.Sort Go.Proofs.Ytljpcicahhfkpaa.Window Go.Proofs.Ytljpcicahhfkpaa.Mem
set_option linter.unusedVariables false

/-- The windows that may not be. -/
def wild : List (Int × Int) := [(-1, 5), (5, 4), (0, 1048577), (-9223372036854775808, 9223372036854775807), (9223372036854775807, 9223372036854775807)]
theorem wild_no : ∀ j, j < 5 → okB (wild[j]?.getD (0, 0)).1 (wild[j]?.getD (0, 0)).2 = false := by decide

theorem waitB_f {e l t : Int} (h : okB e l = false) : waitB e l t = false := hasB_f h
theorem waitV_f {e l t : Int} (h : okB e l = false) : waitV e l t = 0 := by rw [waitV, waitB_f h, orNil_f]

/-- Cells of old blocks behind a call. -/
theorem keepC {W W' : World} {n m i : Nat} {x y z u : Value} (hb : Below W.heap.size W W')
    (h : W.cell? ⟨n, 0, none⟩ = some x ∧ W.cell? ⟨n, 1, none⟩ = some y ∧ W.cell? ⟨m, i * 2, none⟩ = some z ∧ W.cell? ⟨m, i * 2 + 1, none⟩ = some u) :
    W'.cell? ⟨n, 0, none⟩ = some x ∧ W'.cell? ⟨n, 1, none⟩ = some y ∧ W'.cell? ⟨m, i * 2, none⟩ = some z ∧ W'.cell? ⟨m, i * 2 + 1, none⟩ = some u :=
  ⟨(hb.cell (p := ⟨n, 0, none⟩) (block_lt_of_cell h.1)).trans h.1, (hb.cell (p := ⟨n, 1, none⟩) (block_lt_of_cell h.2.1)).trans h.2.1, (hb.cell (p := ⟨m, i * 2, none⟩) (block_lt_of_cell h.2.2.1)).trans h.2.2.1,
    (hb.cell (p := ⟨m, i * 2 + 1, none⟩) (block_lt_of_cell h.2.2.2)).trans h.2.2.2⟩

set_option maxRecDepth 100000 in
set_option maxHeartbeats 8000000 in
theorem walk (w : World) : Calls Try.prog 6 #[] w fun e w' => e = .returned (.bool true) ∧ Below w.heap.size w w' := by
  have hM0 : At ((((((((w.alloc (.cells #[.int .i64 1048576, .int .i64 1048576] 23)).alloc (.cells #[.int .i64 1048576, .int .i64 1048576] 23)).alloc (.cells #[.int .i64 (-1), .int .i64 5] 23)).alloc (.cells #[.int .i64 5, .int .i64 4] 23)).alloc (.cells #[.int .i64 0, .int .i64 1048577] 23)).alloc (.cells #[.int .i64 (-9223372036854775808), .int .i64 9223372036854775807] 23)).alloc (.cells #[.int .i64 9223372036854775807, .int .i64 9223372036854775807] 23)).alloc (.cells #[.int .i64 (-1), .int .i64 5, .int .i64 5, .int .i64 4, .int .i64 0, .int .i64 1048577, .int .i64 (-9223372036854775808), .int .i64 9223372036854775807, .int .i64 9223372036854775807, .int .i64 9223372036854775807] 23)) (w.heap.size + 1) 23 #[.int .i64 1048576, .int .i64 1048576] := ((((((At.new_ _ _ _ (by simp)).alloc _).alloc _).alloc _).alloc _).alloc _).alloc _
  have hQ0 : At ((((((((w.alloc (.cells #[.int .i64 1048576, .int .i64 1048576] 23)).alloc (.cells #[.int .i64 1048576, .int .i64 1048576] 23)).alloc (.cells #[.int .i64 (-1), .int .i64 5] 23)).alloc (.cells #[.int .i64 5, .int .i64 4] 23)).alloc (.cells #[.int .i64 0, .int .i64 1048577] 23)).alloc (.cells #[.int .i64 (-9223372036854775808), .int .i64 9223372036854775807] 23)).alloc (.cells #[.int .i64 9223372036854775807, .int .i64 9223372036854775807] 23)).alloc (.cells #[.int .i64 (-1), .int .i64 5, .int .i64 5, .int .i64 4, .int .i64 0, .int .i64 1048577, .int .i64 (-9223372036854775808), .int .i64 9223372036854775807, .int .i64 9223372036854775807, .int .i64 9223372036854775807] 23)) (w.heap.size + 1 + 1 + 1 + 1 + 1 + 1 + 1) 23 #[.int .i64 (-1), .int .i64 5, .int .i64 5, .int .i64 4, .int .i64 0, .int .i64 1048577, .int .i64 (-9223372036854775808), .int .i64 9223372036854775807, .int .i64 9223372036854775807, .int .i64 9223372036854775807] := At.new_ _ _ _ (by simp)
  have hb0 : Below w.heap.size w ((((((((w.alloc (.cells #[.int .i64 1048576, .int .i64 1048576] 23)).alloc (.cells #[.int .i64 1048576, .int .i64 1048576] 23)).alloc (.cells #[.int .i64 (-1), .int .i64 5] 23)).alloc (.cells #[.int .i64 5, .int .i64 4] 23)).alloc (.cells #[.int .i64 0, .int .i64 1048577] 23)).alloc (.cells #[.int .i64 (-9223372036854775808), .int .i64 9223372036854775807] 23)).alloc (.cells #[.int .i64 9223372036854775807, .int .i64 9223372036854775807] 23)).alloc (.cells #[.int .i64 (-1), .int .i64 5, .int .i64 5, .int .i64 4, .int .i64 0, .int .i64 1048577, .int .i64 (-9223372036854775808), .int .i64 9223372036854775807, .int .i64 9223372036854775807, .int .i64 9223372036854775807] 23)) := by
    repeat (first | exact Below.refl _ _ | refine Below.alloc ?_ (by simp <;> omega) _)
  go_enter Try.func6, Try.ntmps6
  go_wp2_with (go_at_call 18; refine (span_ex _ _ _).mono ?_; rintro e w' ⟨rfl, rfl⟩)
  generalize ((((((((w.alloc (.cells #[.int .i64 1048576, .int .i64 1048576] 23)).alloc (.cells #[.int .i64 1048576, .int .i64 1048576] 23)).alloc (.cells #[.int .i64 (-1), .int .i64 5] 23)).alloc (.cells #[.int .i64 5, .int .i64 4] 23)).alloc (.cells #[.int .i64 0, .int .i64 1048577] 23)).alloc (.cells #[.int .i64 (-9223372036854775808), .int .i64 9223372036854775807] 23)).alloc (.cells #[.int .i64 9223372036854775807, .int .i64 9223372036854775807] 23)).alloc (.cells #[.int .i64 (-1), .int .i64 5, .int .i64 5, .int .i64 4, .int .i64 0, .int .i64 1048577, .int .i64 (-9223372036854775808), .int .i64 9223372036854775807, .int .i64 9223372036854775807, .int .i64 9223372036854775807] 23)) = w2 at *
  generalize w.heap.size + 1 + 1 + 1 + 1 + 1 + 1 + 1 = q at *
  generalize w.heap.size + 1 = n at *
  have hq := hQ0.inside
  have hn := hM0.inside
  have hqc : ∀ j, j < 5 → w2.cell? ⟨q, j * 2, none⟩ = some (.int .i64 (wild[j]?.getD (0, 0)).1) ∧ w2.cell? ⟨q, j * 2 + 1, none⟩ = some (.int .i64 (wild[j]?.getD (0, 0)).2) := by
    intro j hj
    rw [hQ0.cell, hQ0.cell]
    match j, hj with
    | 0, _ => exact ⟨rfl, rfl⟩
    | 1, _ => exact ⟨rfl, rfl⟩
    | 2, _ => exact ⟨rfl, rfl⟩
    | 3, _ => exact ⟨rfl, rfl⟩
    | 4, _ => exact ⟨rfl, rfl⟩
  have hqc' := Lib.hid hqc
  clear hqc hQ0
  go_loopw [3] (fun i wr => ∃ k : Nat, k ≤ 5 ∧ i = .int .i64 k ∧ Below w2.heap.size w2 wr) (fun i _ => 5 - (intOf i).toNat)
  case atStart => exact ⟨0, by omega, rfl, Below.refl _ _⟩
  case round =>
    obtain ⟨k, hk, rfl, hb⟩ := hrel
    by_cases hlt : k < 5
    · have t3 : decide ((k : Int) < 5) = true := by rw [decide_eq_true_eq]; omega
      have c1 := hqc'.out k hlt
      have hm := wild_no k hlt
      have hM := hM0.keep hb hn
      have p0 := hM.cell 0
      have p1 := hM.cell 1
      simp at p0 p1
      have x0 := (hb.cell (p := ⟨q, k * 2, none⟩) hq).trans c1.1
      have x1 := (hb.cell (p := ⟨q, k * 2 + 1, none⟩) hq).trans c1.2
      have hnr := hM.inside
      have hqr : q < wr.heap.size := Nat.lt_of_lt_of_le hq hb.size
      clear c1 hM
      generalize hX : wild[k]?.getD (0, 0) = X at *
      obtain ⟨X1, X2⟩ := X
      simp only at x0 x1 hm
      have k0 : (0 : Int) ≤ (k : Int) := by omega
      have k1 : (k : Int) < 5 := by omega
      have f1 := meetB_f1 (c := 1048576) (d := 1048576) hm
      obtain ⟨f2, f3⟩ := meet_0 f1
      have cM := fun (W : World) => Meet_any X1 X2 1048576 1048576 W
      rw [f1, f2, f3] at cM
      have cM' := Lib.hid cM
      clear cM f1 f2 f3
      have hs := hb.size
      go_upto_region 6 with fail
      go_cut [4, 5] from 29 to 92 (fun s4 s5 wx => s5 = .bool false ∧ Below w2.heap.size w2 wx)
      case first =>
        go_region_with (go_at_call 7; refine (cM'.out _).mono ?_; rintro e w5 ⟨rfl, hb5⟩; first | (have hz : At w5 wr.heap.size 23 #[.int .i64 0, .int .i64 0] := At.keep ((At.new_ wr _ _ rfl).drew) hb5 (by simp); have za := hz.cell 0; have zb := hz.cell 1; simp at za zb; have zfa := hz.free 0; have zfb := hz.free 1) | skip)
        all_goals
          have hE : Below w2.heap.size w2 w5 := Below.trans (by repeat (first | exact hb | refine Below.drew ?_ | refine Below.alloc ?_ (by first | omega | (simp; omega) | simp) _)) (hb5.mono (by first | omega | (simp; omega) | simp))
          have hs5 := hE.size
          go_wp2_with fail
          go_meet
          exact ⟨rfl, by repeat (first | exact hE | refine Below.setCell ?_ (by first | omega | (simp; omega) | simp) _ | refine Below.alloc ?_ (by first | omega | (simp; omega) | simp) _)⟩
      case rest =>
        obtain ⟨rfl, hbc⟩ := hcut
        clear p0 p1 x0 x1 hnr hqr cM'
        have c1 := hqc'.out k hlt
        rw [hX] at c1
        simp only at c1
        have hM := hM0.keep hbc hn
        have p0 := hM.cell 0
        have p1 := hM.cell 1
        simp at p0 p1
        have x0 := (hbc.cell (p := ⟨q, k * 2, none⟩) hq).trans c1.1
        have x1 := (hbc.cell (p := ⟨q, k * 2 + 1, none⟩) hq).trans c1.2
        have hnr := hM.inside
        have hqr : q < wc.heap.size := Nat.lt_of_lt_of_le hq hbc.size
        clear c1 hM
        have f1 := meetB_f2 (a := 0) (b := 9) hm
        obtain ⟨f2, f3⟩ := meet_0 f1
        have cM := fun (W : World) => Meet_any 0 9 X1 X2 W
        rw [f1, f2, f3] at cM
        have cM' := Lib.hid cM
        clear cM f1 f2 f3
        have hsc := hbc.size
        go_upto_region 7 with fail
        go_cut [6, 7] from 29 to 92 (fun s6 s7 wx => s7 = .bool false ∧ Below w2.heap.size w2 wx)
        case first =>
          go_region_with (first | (go_at_call 18; refine (span_ex _ _ _).mono ?_; rintro e w' ⟨rfl, rfl⟩) | (go_at_call 7; refine (cM'.out _).mono ?_; rintro e w5 ⟨rfl, hb5⟩; first | (have hz : At w5 wc.heap.size 23 #[.int .i64 0, .int .i64 0] := At.keep (((At.new_ wc _ _ rfl).alloc _).drew) hb5 (by simp; omega); have za := hz.cell 0; have zb := hz.cell 1; simp at za zb; have zfa := hz.free 0; have zfb := hz.free 1) | (have hz : At w5 (wc.heap.size + 1) 23 #[.int .i64 0, .int .i64 0] := At.keep ((At.new_ _ _ _ (by simp)).drew) hb5 (by simp); have za := hz.cell 0; have zb := hz.cell 1; simp at za zb; have zfa := hz.free 0; have zfb := hz.free 1) | skip))
          all_goals
            have hE : Below w2.heap.size w2 w5 := Below.trans (by repeat (first | exact hbc | refine Below.drew ?_ | refine Below.alloc ?_ (by first | omega | (simp; omega) | simp) _)) (hb5.mono (by first | omega | (simp; omega) | simp))
            have hs5 := hE.size
            go_wp2_with fail
            go_meet
            exact ⟨rfl, by repeat (first | exact hE | refine Below.setCell ?_ (by first | omega | (simp; omega) | simp) _ | refine Below.alloc ?_ (by first | omega | (simp; omega) | simp) _)⟩
        case rest =>
          obtain ⟨rfl, hbd⟩ := hcut
          clear p0 p1 x0 x1 hnr hqr cM' hsc hb hbc
          have c1 := hqc'.out k hlt
          rw [hX] at c1
          simp only at c1
          have wB := waitB_f (t := 5) hm
          have wV := waitV_f (t := 5) hm
          have sB := shiftB_f1 (d := 0) hm
          obtain ⟨sE, sL⟩ := shift_0 sB
          have hB := hasB_f (t := 5) hm
          have x0 := (hbd.cell (p := ⟨q, k * 2, none⟩) hq).trans c1.1
          have x1 := (hbd.cell (p := ⟨q, k * 2 + 1, none⟩) hq).trans c1.2
          go_wp2_with fail
          refine (Wait_any _ _ _ _).mono ?_
          rintro e w3 ⟨rfl, hb3⟩
          rw [wB, wV]
          have hbe := hbd.trans (hb3.mono hbd.size)
          clear hb3 x0 x1 hbd wB wV
          have x0 := (hbe.cell (p := ⟨q, k * 2, none⟩) hq).trans c1.1
          have x1 := (hbe.cell (p := ⟨q, k * 2 + 1, none⟩) hq).trans c1.2
          go_wp2_with fail
          refine (Shift_any _ _ _ _).mono ?_
          rintro e w4 ⟨rfl, hb4⟩
          rw [sB, sE, sL]
          have hbf := hbe.trans (hb4.mono hbe.size)
          clear hb4 x0 x1 hbe sB sE sL
          have hbg := hbf.alloc hbf.size (.cells #[.int .i64 0, .int .i64 0] 23)
          have x0 := (hbg.cell (p := ⟨q, k * 2, none⟩) hq).trans c1.1
          have x1 := (hbg.cell (p := ⟨q, k * 2 + 1, none⟩) hq).trans c1.2
          go_wp2_with fail
          generalize (w4.alloc (.cells #[.int .i64 0, .int .i64 0] 23)) = w5 at *
          refine (May_any _ _ _).mono ?_
          rintro e w6 ⟨rfl, hb6⟩
          rw [hm]
          have hbh := hbg.trans (hb6.mono hbg.size)
          clear hb6 x0 x1 hbg hbf
          have x0 := (hbh.cell (p := ⟨q, k * 2, none⟩) hq).trans c1.1
          have x1 := (hbh.cell (p := ⟨q, k * 2 + 1, none⟩) hq).trans c1.2
          go_wp2_with fail
          refine (Has_any _ _ _ _).mono ?_
          rintro e w7 ⟨rfl, hb7⟩
          rw [hB]
          have hbi := hbh.trans (hb7.mono hbh.size)
          clear hb7 x0 x1 hbh c1 hB hX
          go_wp2
          go_roundw
          case rel => exact ⟨k + 1, by omega, by go_num, hbi⟩
          case measure => simp [intOf]; omega
    · obtain rfl : k = 5 := by omega
      have hB3 := hb0.trans (hb.mono hb0.size)
      have hM3 := hM0.keep hb hn
      clear hqc' hM0 hq hn hb hb0
      generalize wr = w3 at *
      have m0 := hM3.cell 0
      have m1 := hM3.cell 1
      simp at m0 m1
      go_wp2_with fail
      refine (Wait_any _ _ _ _).mono ?_
      rintro e w4 ⟨rfl, hb4⟩
      rw [show waitV 1048576 1048576 (-9223372036854775808) = 1048576 from rfl, show waitB 1048576 1048576 (-9223372036854775808) = true from rfl]
      have hB4 := hB3.trans (hb4.mono hB3.size)
      have hM4 := hM3.keep hb4 hM3.inside
      clear hb4 m0 m1 hB3 hM3
      have m0 := hM4.cell 0
      have m1 := hM4.cell 1
      simp at m0 m1
      go_wp2_with fail
      refine (Wait_any _ _ _ _).mono ?_
      rintro e w5 ⟨rfl, hb5⟩
      rw [show waitV 1048576 1048576 9223372036854775807 = 0 from rfl, show waitB 1048576 1048576 9223372036854775807 = false from rfl]
      have hB5 := hB4.trans (hb5.mono hB4.size)
      have hM5 := hM4.keep hb5 hM4.inside
      clear hb5 m0 m1 hB4 hM4
      have hB5' := hB5.alloc hB5.size (.cells #[.int .i64 0, .int .i64 0] 23)
      have hM5' := hM5.alloc (.cells #[.int .i64 0, .int .i64 0] 23)
      go_wp2_with (go_at_call 18; refine (span_ex _ _ _).mono ?_; rintro e w' ⟨rfl, rfl⟩)
      generalize (w5.alloc (.cells #[.int .i64 0, .int .i64 0] 23)) = w6 at *
      refine (Shift_any _ _ _ _).mono ?_
      rintro e w7 ⟨rfl, hb7⟩
      rw [show shiftE 0 0 1048576 = 1048576 from rfl, show shiftL 0 0 1048576 = 1048576 from rfl, show shiftB 0 0 1048576 = true from rfl]
      have hB7 := hB5'.trans (hb7.mono hB5'.size)
      have hM7 := hM5'.keep hb7 hM5'.inside
      clear hb7 hB5 hM5 hB5' hM5'
      have hs7 := hB7.size
      have hC7 : At ((w7.alloc (.cells #[.int .i64 1048576, .int .i64 1048576] 23)).alloc (.cells #[.int .i64 0, .int .i64 0] 23)) w7.heap.size 23 #[.int .i64 1048576, .int .i64 1048576] := (At.new w7 _ _).alloc _
      have hM7' := (hM7.alloc (.cells #[.int .i64 1048576, .int .i64 1048576] 23)).alloc (.cells #[.int .i64 0, .int .i64 0] 23)
      have hB7' : Below w.heap.size w ((w7.alloc (.cells #[.int .i64 1048576, .int .i64 1048576] 23)).alloc (.cells #[.int .i64 0, .int .i64 0] 23)) := (hB7.alloc hB7.size _).alloc (by simp; omega) _
      go_wp2_with (go_at_call 18; refine (span_ex _ _ _).mono ?_; rintro e w' ⟨rfl, rfl⟩)
      generalize ((w7.alloc (.cells #[.int .i64 1048576, .int .i64 1048576] 23)).alloc (.cells #[.int .i64 0, .int .i64 0] 23)) = w8 at *
      generalize w7.heap.size = c at *
      refine (Shift_any _ _ _ _).mono ?_
      rintro e w9 ⟨rfl, hb9⟩
      rw [show shiftE 0 0 9223372036854775807 = 0 from rfl, show shiftL 0 0 9223372036854775807 = 0 from rfl, show shiftB 0 0 9223372036854775807 = false from rfl]
      have hB9 := hB7'.trans (hb9.mono hB7'.size)
      have hM9 := hM7'.keep hb9 hM7'.inside
      have hC9 := hC7.keep hb9 hC7.inside
      clear hb9 hB7 hM7 hB7' hM7' hC7 hs7
      have hM9' := hM9.alloc (.cells #[.int .i64 0, .int .i64 0] 23)
      have hC9' := hC9.alloc (.cells #[.int .i64 0, .int .i64 0] 23)
      have hB9' := hB9.alloc hB9.size (.cells #[.int .i64 0, .int .i64 0] 23)
      have m0 := hM9'.cell 0
      have m1 := hM9'.cell 1
      simp at m0 m1
      go_wp2_with fail
      generalize (w9.alloc (.cells #[.int .i64 0, .int .i64 0] 23)) = wA at *
      refine (Shift_any _ _ _ _).mono ?_
      rintro e wB ⟨rfl, hbB⟩
      rw [show shiftE 1048576 1048576 (-9223372036854775808) = 0 from rfl, show shiftL 1048576 1048576 (-9223372036854775808) = 0 from rfl, show shiftB 1048576 1048576 (-9223372036854775808) = false from rfl]
      have hBB := hB9'.trans (hbB.mono hB9'.size)
      have hMB := hM9'.keep hbB hM9'.inside
      have hCB := hC9'.keep hbB hC9'.inside
      clear hbB hB9 hM9 hC9 hM9' hC9' hB9' m0 m1
      have hMB' := hMB.alloc (.cells #[.int .i64 0, .int .i64 0] 23)
      have hCB' := hCB.alloc (.cells #[.int .i64 0, .int .i64 0] 23)
      have hBB' := hBB.alloc hBB.size (.cells #[.int .i64 0, .int .i64 0] 23)
      go_wp2_with fail
      generalize (wB.alloc (.cells #[.int .i64 0, .int .i64 0] 23)) = wC at *
      clear hMB hCB hBB
      refine (works_any _).mono ?_
      rintro e wD ⟨rfl, hbD⟩
      have hBD := hBB'.trans (hbD.mono hBB'.size)
      have hMD := hMB'.keep hbD hMB'.inside
      have hCD := hCB'.keep hbD hCB'.inside
      clear hbD hBB' hMB' hCB'
      have m0 := hMD.cell 0
      have m1 := hMD.cell 1
      simp at m0 m1
      go_wp2_with fail
      refine (May_any _ _ _).mono ?_
      rintro e wE ⟨rfl, hbE⟩
      rw [show okB 1048576 1048576 = true from rfl]
      have hBE := hBD.trans (hbE.mono hBD.size)
      have hME := hMD.keep hbE hMD.inside
      have hCE := hCD.keep hbE hCD.inside
      clear hbE hBD hMD hCD m0 m1
      go_wp2_with fail
      refine (May_any _ _ _).mono ?_
      rintro e wF ⟨rfl, hbF⟩
      rw [show okB 0 0 = true from rfl]
      have hBF := hBE.trans (hbF.mono hBE.size)
      have hMF := hME.keep hbF hME.inside
      have hCF := hCE.keep hbF hCE.inside
      clear hbF hBE hME hCE
      have m0 := hMF.cell 0
      have m1 := hMF.cell 1
      have c0 := hCF.cell 0
      have c1 := hCF.cell 1
      simp at m0 m1 c0 c1
      go_wp2
      go_ret
      exact ⟨rfl, hBF⟩

set_option maxRecDepth 100000 in
theorem lifted (os : Os) (started : os.Started) (H : Type) (enc : TypeId × Value → H) :
    ReturnsInHanded {} Try.checked os 6 .any (Rows.windowKnownSpec.pre6 enc Try.prog Try.f6 Rows.windowKnownRow.domain false) (Rows.windowKnownSpec.post enc Try.prog Try.f6 false true false false) := by
  refine returnsInHanded_of_change (C := Try.checked) own started (by kernel_rfl) Try.func6
    (ChangeSpec.witness6 (enc := enc) (C := Try.checked) false ⟨#[], #[], []⟩ 8 (by kernel_rfl) (by kernel_rfl) (by kernel_rfl) (by kernel_rfl)) ?_
  intro W base args ds gs before hval0 hW hcnd _
  have hW' := hW
  obtain ⟨p, q, hA0, hV, rfl, hfz, hnd⟩ := hW
  have hA : DataW.TrodAll enc Try.prog W 0 (fun _ => true) true Try.f6.params.toList args.toList ds p := hA0
  rw [Try.params6] at hA
  obtain ⟨rfl, rfl, rfl⟩ := trodAll_none hA
  obtain ⟨rfl, rfl⟩ := trodVars_none hV
  exact (walk W).mono fun e W' ⟨he, hb⟩ => ⟨_, he, Close.law_post laidOut (by kernel_rfl) rfl (by kernel_rfl) Try.underlying4 hW' rfl hb⟩

theorem over : Rows.windowKnownRow.holds Try.pinned (OpenSpec.ofChange Rows.windowKnownSpec) :=
  OpenClaim.holds_of_wide 6 Try.f6 rfl rfl rfl rfl rfl rfl rfl ⟨rfl, rfl, rfl, rfl, rfl⟩ rfl rfl rfl rfl rfl (by kernel_rfl) Try.func6 (by kernel_rfl)
    (of_decide_eq_true (by kernel_rfl)) (by unfold Func.isWrapper; first | (rw [if_pos (by decide +kernel)]; kernel_rfl) | (rw [if_neg (by decide +kernel)]; exact ⟨rfl, rfl⟩))
    (fun os started H enc _ => lifted os started H enc)

theorem proved : Rows.WindowKnownSaid := over
#print axioms proved

end Go.Proofs.Ytljpcicahhfkpaa.windowKnown
