/-
  consignlaw03.WindowTells returns true for all two windows and times: what may be, what is in a window, in two, when one begins, and where it is shifted, is as the document says. No condition.
-/
import Derived.Test.YtljpcicahhfkpaaWindowWorks
import Derived.Test.YtljpcicahhfkpaaWindowOpen
import Derived.Deep.CutRange
namespace Go.Proofs.Ytljpcicahhfkpaa.windowTells
open Go.ChangeShapes Go.WideShapes Go.ChangeAt Go.RowKit Go.Sort Go.Proofs.Ytljpcicahhfkpaa.Window Go.Proofs.Ytljpcicahhfkpaa.Mem Go.Proofs.Ytljpcicahhfkpaa.Tail
set_option linter.unusedVariables false

set_option maxRecDepth 100000 in
set_option maxHeartbeats 8000000 in
theorem walk (ax ay bx by_ t : Int) (hax : -9223372036854775808 ≤ ax ∧ ax ≤ 9223372036854775807) (hay : -9223372036854775808 ≤ ay ∧ ay ≤ 9223372036854775807) (hbx : -9223372036854775808 ≤ bx ∧ bx ≤ 9223372036854775807) (hby : -9223372036854775808 ≤ by_ ∧ by_ ≤ 9223372036854775807) (ht : -9223372036854775808 ≤ t ∧ t ≤ 9223372036854775807) (w : World) :
    Calls Try.prog 3 #[.agg #[.int .i64 ax, .int .i64 ay], .agg #[.int .i64 bx, .int .i64 by_], .int .i64 t] w fun e w' => e = .returned (.bool true) ∧ Below w.heap.size w w' := by
  obtain ⟨hax1, hax2⟩ := hax
  obtain ⟨hay1, hay2⟩ := hay
  obtain ⟨hbx1, hbx2⟩ := hbx
  obtain ⟨hby1, hby2⟩ := hby
  obtain ⟨ht1, ht2⟩ := ht
  go_enter Try.func3, Try.ntmps3
  go_upto_region 4 with fail
  have hE : Below w.heap.size w ((((w.alloc (.cells #[.int .i64 ax, .int .i64 ay] 23)).alloc (.cells #[.int .i64 bx, .int .i64 by_] 23)).alloc (.cells #[.int .i64 (ax.tmod 40), .int .i64 (wrap64 (ay.tmod 40 + 10))] 23)).alloc (.cells #[.int .i64 (bx.tmod 40), .int .i64 (wrap64 (by_.tmod 40 + 10))] 23)) := by
    repeat (first | exact Below.refl _ _ | refine Below.alloc ?_ (by simp <;> omega) _)
  generalize ((((w.alloc (.cells #[.int .i64 ax, .int .i64 ay] 23)).alloc (.cells #[.int .i64 bx, .int .i64 by_] 23)).alloc (.cells #[.int .i64 (ax.tmod 40), .int .i64 (wrap64 (ay.tmod 40 + 10))] 23)).alloc (.cells #[.int .i64 (bx.tmod 40), .int .i64 (wrap64 (by_.tmod 40 + 10))] 23)) = wB at *
  generalize wrap64 (ay.tmod 40 + 10) = cL at *
  generalize wrap64 (by_.tmod 40 + 10) = dL at *
  generalize ax.tmod 40 = cE at *
  generalize bx.tmod 40 = dE at *
  have i3 : ∀ (k : Nat), k < 3 → ∃ x y z u : Int, ∀ w, (Instr.index 25 (.agg #[.int .i64 ax, .int .i64 ay, .int .i64 bx, .int .i64 by_, .int .i64 cE, .int .i64 cL, .int .i64 dE, .int .i64 dL, .int .i64 ax, .int .i64 ay, .int .i64 dE, .int .i64 dL]) (.int .i64 (k : Int))).run Try.prog w = .ok (.agg #[.int .i64 x, .int .i64 y, .int .i64 z, .int .i64 u]) w := by
    intro k hk
    match k, hk with
    | 0, _ => exact ⟨ax, ay, bx, by_, fun _ => by kernel_rfl⟩
    | 1, _ => exact ⟨cE, cL, dE, dL, fun _ => by kernel_rfl⟩
    | 2, _ => exact ⟨ax, ay, dE, dL, fun _ => by kernel_rfl⟩
  have i4 : ∀ (a b c d : Int) (k : Nat), k < 4 → ∃ x : Int, ∀ w, (Instr.index 29 (.agg #[.int .i64 a, .int .i64 b, .int .i64 c, .int .i64 d]) (.int .i64 (k : Int))).run Try.prog w = .ok (.int .i64 x) w := by
    intro a b c d k hk
    match k, hk with
    | 0, _ => exact ⟨a, fun _ => by kernel_rfl⟩
    | 1, _ => exact ⟨b, fun _ => by kernel_rfl⟩
    | 2, _ => exact ⟨c, fun _ => by kernel_rfl⟩
    | 3, _ => exact ⟨d, fun _ => by kernel_rfl⟩
  have i3' := Lib.hid i3
  have i4' := Lib.hid i4
  clear i3 i4
  go_loopw [51] (fun i wr => ∃ k : Nat, k ≤ 3 ∧ i = .int .i64 k ∧ Below w.heap.size w wr) (fun i _ => 3 - (intOf i).toNat)
  case atStart => exact ⟨0, by omega, rfl, hE⟩
  case round =>
    clear hE
    obtain ⟨k, hk, rfl, hb⟩ := hrel
    by_cases hlt : k < 3
    · obtain ⟨X, Y, Z, U, hi⟩ := i3'.out k hlt
      have t3 : decide ((k : Int) < 3) = true := by rw [decide_eq_true_eq]; omega
      have hP0 : At (wr.alloc (.cells #[.int .i64 X, .int .i64 Y, .int .i64 Z, .int .i64 U] 24)) wr.heap.size 24 #[.int .i64 X, .int .i64 Y, .int .i64 Z, .int .i64 U] := At.new wr _ _
      have hB0 := hb.alloc hb.size (.cells #[.int .i64 X, .int .i64 Y, .int .i64 Z, .int .i64 U] 24)
      go_wp2_with fail
      generalize (wr.alloc (.cells #[.int .i64 X, .int .i64 Y, .int .i64 Z, .int .i64 U] 24)) = v0 at *
      generalize wr.heap.size = q at *
      clear hb hi
      obtain ⟨ME, hME⟩ : ∃ v, meetE X Y Z U = v := ⟨_, rfl⟩
      obtain ⟨ML, hML⟩ : ∃ v, meetL X Y Z U = v := ⟨_, rfl⟩
      obtain ⟨MB, hMB⟩ : ∃ v, meetB X Y Z U = v := ⟨_, rfl⟩
      obtain ⟨M, hM⟩ : ∃ v, okB X Y = v := ⟨_, rfl⟩
      have c1 := fun W => Meet_any X Y Z U W
      have c2 := fun W => refMeet_any X Y Z U W
      have c3 := fun W => May_any X Y W
      have c4 := fun W => refMay_any X Y W
      simp only [hME, hML, hMB, hM] at c1 c2 c3 c4
      have c1' := Lib.hid c1
      have c2' := Lib.hid c2
      have c3' := Lib.hid c3
      have c4' := Lib.hid c4
      clear hME hML hMB hM c1 c2 c3 c4
      refine (c1'.out _).mono ?_
      rintro er v1 ⟨rfl, hb1⟩
      have hB1 := (hB0.trans (hb1.mono hB0.size)).alloc (hB0.trans (hb1.mono hB0.size)).size (.cells #[.int .i64 ME, .int .i64 ML] 23)
      have hP1 := (hP0.keep hb1 hP0.inside).alloc (.cells #[.int .i64 ME, .int .i64 ML] 23)
      have hM1 := At.new v1 23 #[.int .i64 ME, .int .i64 ML]
      clear hb1 hB0 hP0
      have p0 := hP1.cell 0
      have p1 := hP1.cell 1
      have p2 := hP1.cell 2
      have p3 := hP1.cell 3
      simp at p0 p1 p2 p3
      go_wp2_with fail
      generalize (v1.alloc (.cells #[.int .i64 ME, .int .i64 ML] 23)) = v2 at *
      generalize v1.heap.size = g1 at *
      refine (c2'.out _).mono ?_
      rintro er v3 ⟨rfl, hb3⟩
      have hB3 := (hB1.trans (hb3.mono hB1.size)).alloc (hB1.trans (hb3.mono hB1.size)).size (.cells #[.int .i64 ME, .int .i64 ML] 23)
      have hP3 := (hP1.keep hb3 hP1.inside).alloc (.cells #[.int .i64 ME, .int .i64 ML] 23)
      have hM3 := (hM1.keep hb3 hM1.inside).alloc (.cells #[.int .i64 ME, .int .i64 ML] 23)
      have hN3 := At.new v3 23 #[.int .i64 ME, .int .i64 ML]
      clear hb3 hB1 hP1 hM1 p0 p1 p2 p3 c1' c2'
      go_upto_region 8 with fail
      generalize (v3.alloc (.cells #[.int .i64 ME, .int .i64 ML] 23)) = v4 at *
      generalize v3.heap.size = g3 at *
      have p0 := hP3.cell 0
      have p1 := hP3.cell 1
      simp at p0 p1
      have m0 := hM3.cell 0
      have m1 := hM3.cell 1
      simp at m0 m1
      have n0 := hN3.cell 0
      have n1 := hN3.cell 1
      simp at n0 n1
      have kp0 := cell_regrown p0
      have kp1 := cell_regrown p1
      have km0 := cell_regrown m0
      have km1 := cell_regrown m1
      have kn0 := cell_regrown n0
      have kn1 := cell_regrown n1
      have cM := fun d os => Calls.regrown_of (c3'.out (grow (redrawn v4 d) os))
      have cR := fun d os => Calls.regrown_of (c4'.out (grow (redrawn v4 d) os))
      refine wp_region_quiet_below (by kernel_rfl) (by kernel_rfl) ?_
      repeat (go_big_quiet_step (first | with_reducible exact cM _ _ | with_reducible exact cR _ _))
      refine wpQuiet_nil ?_
      intro _ hw'
      obtain ⟨⟨dq, osq⟩, hw''⟩ := hw'
      subst hw''
      have hB5 := hB3.trans ((below_regrown v4 dq osq).mono hB3.size)
      have hP5 := hP3.keep (below_regrown v4 dq osq) hP3.inside
      clear cM cR kp0 kp1 km0 km1 kn0 kn1 p0 p1 m0 m1 n0 n1 hB3 hP3 hM3 hN3 c3' c4'
      generalize grow (redrawn v4 dq) osq = v5 at *
      have p0 := hP5.cell 0
      have p1 := hP5.cell 1
      simp at p0 p1
      go_wp2_with fail
      generalize t.tmod 50 = T5 at *
      have i5 := i4'.out t T5 Y X
      have i5' := Lib.hid i5
      clear i5 p0 p1
      have hPi := hP5.inside
      go_loopw [97] (fun i wr => ∃ k : Nat, k ≤ 4 ∧ i = .int .i64 k ∧ Below v5.heap.size v5 wr) (fun i _ => 4 - (intOf i).toNat)
      case atStart => exact ⟨0, by omega, rfl, Below.refl _ _⟩
      case round =>
        obtain ⟨k2, hk2, rfl, hb⟩ := hrel
        by_cases hlt2 : k2 < 4
        · obtain ⟨V, hi⟩ := i5'.out k2 hlt2
          have t4 : decide ((k2 : Int) < 4) = true := by rw [decide_eq_true_eq]; omega
          obtain ⟨WV, hWV⟩ : ∃ v, waitV X Y V = v := ⟨_, rfl⟩
          obtain ⟨WB, hWB⟩ : ∃ v, waitB X Y V = v := ⟨_, rfl⟩
          obtain ⟨SE, hSE⟩ : ∃ v, shiftE X Y V = v := ⟨_, rfl⟩
          obtain ⟨SL, hSL⟩ : ∃ v, shiftL X Y V = v := ⟨_, rfl⟩
          obtain ⟨SB, hSB⟩ : ∃ v, shiftB X Y V = v := ⟨_, rfl⟩
          obtain ⟨HB, hHB⟩ : ∃ v, hasB X Y V = v := ⟨_, rfl⟩
          have c1 := fun W => Wait_any X Y V W
          have c2 := fun W => refWait_any X Y V W
          have c3 := fun W => Shift_any X Y V W
          have c4 := fun W => refShift_any X Y V W
          have c5 := fun W => Has_any X Y V W
          have c6 := fun W => refHas_any X Y V W
          simp only [hWV, hWB, hSE, hSL, hSB, hHB] at c1 c2 c3 c4 c5 c6
          have c1' := Lib.hid c1
          have c2' := Lib.hid c2
          have c3' := Lib.hid c3
          have c4' := Lib.hid c4
          have c5' := Lib.hid c5
          have c6' := Lib.hid c6
          clear hWV hWB hSE hSL hSB hHB c1 c2 c3 c4 c5 c6
          have hP6 := hP5.keep hb hPi
          have p0 := hP6.cell 0
          have p1 := hP6.cell 1
          simp at p0 p1
          go_wp2_with fail
          refine (c1'.out _).mono ?_
          rintro er v7 ⟨rfl, hb7⟩
          have hB7 := hb.trans (hb7.mono hb.size)
          have hP7 := hP6.keep hb7 hP6.inside
          clear hb7 hP6 p0 p1 
          have p0 := hP7.cell 0
          have p1 := hP7.cell 1
          simp at p0 p1
          go_wp2_with fail
          refine (c2'.out _).mono ?_
          rintro er v8 ⟨rfl, hb8⟩
          have hB8 := hB7.trans (hb8.mono hB7.size)
          have hP8 := hP7.keep hb8 hP7.inside
          clear hb8 hP7 p0 p1 hB7
          have p0 := hP8.cell 0
          have p1 := hP8.cell 1
          simp at p0 p1
          go_wp2_with fail
          refine (c3'.out _).mono ?_
          rintro er v9 ⟨rfl, hb9⟩
          have hB9 := (hB8.trans (hb9.mono hB8.size)).alloc (hB8.trans (hb9.mono hB8.size)).size (.cells #[.int .i64 SE, .int .i64 SL] 23)
          have hP9 := (hP8.keep hb9 hP8.inside).alloc (.cells #[.int .i64 SE, .int .i64 SL] 23)
          have hS9 := At.new v9 23 #[.int .i64 SE, .int .i64 SL]
          clear hb9 hP8 p0 p1 hB8
          have p0 := hP9.cell 0
          have p1 := hP9.cell 1
          simp at p0 p1
          go_wp2_with fail
          generalize (v9.alloc (.cells #[.int .i64 SE, .int .i64 SL] 23)) = y9 at *
          generalize v9.heap.size = g9 at *
          refine (c4'.out _).mono ?_
          rintro er v10 ⟨rfl, hb10⟩
          have hB10 := (hB9.trans (hb10.mono hB9.size)).alloc (hB9.trans (hb10.mono hB9.size)).size (.cells #[.int .i64 SE, .int .i64 SL] 23)
          have hP10 := (hP9.keep hb10 hP9.inside).alloc (.cells #[.int .i64 SE, .int .i64 SL] 23)
          have hS10 := At.new v10 23 #[.int .i64 SE, .int .i64 SL]
          have hT10 := (hS9.keep hb10 hS9.inside).alloc (.cells #[.int .i64 SE, .int .i64 SL] 23)
          clear hS9
          clear hb10 hP9 p0 p1 hB9
          go_upto_region 17 with fail
          generalize (v10.alloc (.cells #[.int .i64 SE, .int .i64 SL] 23)) = y10 at *
          generalize v10.heap.size = g10 at *
          have p0 := hP10.cell 0
          have p1 := hP10.cell 1
          simp at p0 p1
          have m0 := hS10.cell 0
          have m1 := hS10.cell 1
          simp at m0 m1
          have n0 := hT10.cell 0
          have n1 := hT10.cell 1
          simp at n0 n1
          have kp0 := cell_regrown p0
          have kp1 := cell_regrown p1
          have km0 := cell_regrown m0
          have km1 := cell_regrown m1
          have kn0 := cell_regrown n0
          have kn1 := cell_regrown n1
          have cM := fun d os => Calls.regrown_of (c5'.out (grow (redrawn y10 d) os))
          have cR := fun d os => Calls.regrown_of (c6'.out (grow (redrawn y10 d) os))
          refine wp_region_quiet_below (by kernel_rfl) (by kernel_rfl) ?_
          repeat (go_big_quiet_step (first | with_reducible exact cM _ _ | with_reducible exact cR _ _))
          refine wpQuiet_nil ?_
          intro _ hw'
          obtain ⟨⟨dq, osq⟩, hw''⟩ := hw'
          subst hw''
          have hB11 := hB10.trans ((below_regrown y10 dq osq).mono hB10.size)
          clear cM cR kp0 kp1 km0 km1 kn0 kn1 p0 p1 m0 m1 n0 n1 hB10 hP10 hS10 hT10 c1' c2' c3' c4' c5' c6' hi
          generalize grow (redrawn y10 dq) osq = v11 at *
          go_wp2
          go_roundw
          case rel => exact ⟨k2 + 1, by omega, by go_num, hB11⟩
          case measure => simp [intOf]; omega
        · obtain rfl : k2 = 4 := by omega
          have hB6 := hB5.trans (hb.mono hB5.size)
          clear hP5 hB5 hb i5' hPi
          go_wp2
          go_roundw
          case rel => exact ⟨k + 1, by omega, by go_num, hB6⟩
          case measure => simp [intOf]; omega
    · obtain rfl : k = 3 := by omega
      go_wp2_with fail
      refine (works_any _).mono ?_
      rintro e w9 ⟨rfl, hb9⟩
      go_wp2
      go_ret
      exact ⟨rfl, hb.trans (hb9.mono hb.size)⟩

set_option maxRecDepth 100000 in
theorem lifted (os : Os) (started : os.Started) (H : Type) (enc : TypeId × Value → H) :
    ReturnsInHanded {} Try.checked os 3 .any (Rows.windowTellsSpec.pre6 enc Try.prog Try.f3 Rows.windowTellsRow.domain false) (Rows.windowTellsSpec.post enc Try.prog Try.f3 false true false false) := by
  refine returnsInHanded_of_change (C := Try.checked) own started (by kernel_rfl) Try.func3
    (ChangeSpec.witness6 (enc := enc) (C := Try.checked) false ⟨#[], #[.agg #[.int .i64 0, .int .i64 0], .agg #[.int .i64 0, .int .i64 0], .int .i64 0], []⟩ 8 (by kernel_rfl) (by kernel_rfl) (by kernel_rfl) (by kernel_rfl)) ?_
  intro W base args ds gs before hval0 hW hcnd _
  have hval : ∀ (j : Nat) t v, Try.f3.params[j]? = some t → args[j]? = some v → Value.okWide Try.prog W .any base t v := hval0
  have hW' := hW
  obtain ⟨p, q, hA0, hV, rfl, hfz, hnd⟩ := hW
  have hA : DataW.TrodAll enc Try.prog W 0 (fun _ => true) true Try.f3.params.toList args.toList ds p := hA0
  rw [Try.params3] at hA hval
  obtain ⟨v0, vs0, d0, ds0, p0, q0, hargs, rfl, rfl, h0, r0⟩ := trodAll_cons hA
  obtain ⟨v1, vs1, d1, ds1, p1, q1, rfl, rfl, rfl, h1, r1⟩ := trodAll_cons r0
  obtain ⟨v2, vs2, d2, ds2, p2, q2, rfl, rfl, rfl, h2, r2⟩ := trodAll_cons r1
  obtain ⟨rfl, rfl, rfl⟩ := trodAll_nil r2
  obtain rfl : args = #[v0, v1, v2] := by cases args; simp_all
  obtain ⟨rfl, rfl⟩ := trodVars_none hV
  obtain ⟨x0, y0, rfl, wx0, wy0⟩ := openWindow (hval 0 23 v0 rfl rfl) h0
  obtain ⟨x1, y1, rfl, wx1, wy1⟩ := openWindow (hval 1 23 v1 rfl rfl) h1
  obtain ⟨n, rfl, rfl, rfl, wn⟩ := open_int Try.underlying3 (hval 2 3 v2 rfl rfl) h2
  exact (walk x0 y0 x1 y1 n (wf_ends wx0) (wf_ends wy0) (wf_ends wx1) (wf_ends wy1) (wf_ends wn) W).mono fun e W' ⟨he, hb⟩ => ⟨_, he, Close.law_post laidOut (by kernel_rfl) rfl (by kernel_rfl) Try.underlying4 hW' rfl hb⟩

theorem over : Rows.windowTellsRow.holds Try.pinned (OpenSpec.ofChange Rows.windowTellsSpec) :=
  OpenClaim.holds_of_wide 3 Try.f3 rfl rfl rfl rfl rfl rfl rfl ⟨rfl, rfl, rfl, rfl, rfl⟩ rfl rfl rfl rfl rfl (by kernel_rfl) Try.func3 (by kernel_rfl)
    (of_decide_eq_true (by kernel_rfl)) (by unfold Func.isWrapper; first | (rw [if_pos (by decide +kernel)]; kernel_rfl) | (rw [if_neg (by decide +kernel)]; exact ⟨rfl, rfl⟩))
    (fun os started H enc _ => lifted os started H enc)

theorem proved : Rows.WindowTellsSaid := over
#print axioms proved

end Go.Proofs.Ytljpcicahhfkpaa.windowTells
