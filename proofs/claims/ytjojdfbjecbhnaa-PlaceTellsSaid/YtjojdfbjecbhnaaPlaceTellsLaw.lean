/-
  consignlaw02.PlaceTells returns true for all two places: whether they may be, how far it is, and by which way, is as the document says. No condition.
-/
import Derived.Test.YtjojdfbjecbhnaaPlaceWorks
import Derived.Test.YtjojdfbjecbhnaaPlaceOpen
namespace Go.Proofs.Ytjojdfbjecbhnaa.placeTells
open Go.ChangeShapes Go.WideShapes Go.ChangeAt Go.RowKit Go.Sort Go.Proofs.Ytjojdfbjecbhnaa.Place Go.Proofs.Ytjojdfbjecbhnaa.Mem
set_option linter.unusedVariables false

theorem cells4 {W W' : World} {n : Nat} {x y z u : Value} (hb : Below W.heap.size W W') (h : W.cell? ⟨n, 0, none⟩ = some x ∧ W.cell? ⟨n, 1, none⟩ = some y ∧ W.cell? ⟨n, 2, none⟩ = some z ∧ W.cell? ⟨n, 3, none⟩ = some u) :
    W'.cell? ⟨n, 0, none⟩ = some x ∧ W'.cell? ⟨n, 1, none⟩ = some y ∧ W'.cell? ⟨n, 2, none⟩ = some z ∧ W'.cell? ⟨n, 3, none⟩ = some u :=
  ⟨(hb.cell (p := ⟨n, 0, none⟩) (block_lt_of_cell h.1)).trans h.1, (hb.cell (p := ⟨n, 1, none⟩) (block_lt_of_cell h.2.1)).trans h.2.1, (hb.cell (p := ⟨n, 2, none⟩) (block_lt_of_cell h.2.2.1)).trans h.2.2.1, (hb.cell (p := ⟨n, 3, none⟩) (block_lt_of_cell h.2.2.2)).trans h.2.2.2⟩

theorem Same_alike (sv tv : Value) (xs : List (Int × Int)) (hx : xs.length ≤ 140737488351232) (w : World) (hI : Place.Rows w.heap.size w sv xs) (hJ : Place.Rows w.heap.size w tv xs) :
    Calls Try.prog 13 #[sv, tv] w fun e w' => e = .returned (.bool true) ∧ Below w.heap.size w w' := by
  have := Same_any sv tv xs xs hx w hI hJ
  rwa [show decide (xs = xs) = true by simp] at this

theorem way_len (a b : Int × Int) : (wayL a b).length ≤ 140737488351232 := by
  unfold wayL
  split
  · rename_i h
    simp only [Bool.and_eq_true] at h
    have ga := (mayB_iff _).1 h.1
    have gb := (mayB_iff _).1 h.2
    have := gap_side ga.1 gb.1
    have := gap_side ga.2 gb.2
    rw [upto_length]
    unfold wayN nx ny
    omega
  · simp

set_option maxRecDepth 100000 in
set_option maxHeartbeats 8000000 in
theorem walk (ax ay bx by_ : Int) (hx : -9223372036854775808 ≤ ax ∧ ax ≤ 9223372036854775807) (hy : -9223372036854775808 ≤ ay ∧ ay ≤ 9223372036854775807) (hx2 : -9223372036854775808 ≤ bx ∧ bx ≤ 9223372036854775807) (hy2 : -9223372036854775808 ≤ by_ ∧ by_ ≤ 9223372036854775807) (w : World) :
    Calls Try.prog 3 #[.agg #[.int .i64 ax, .int .i64 ay], .agg #[.int .i64 bx, .int .i64 by_]] w fun e w' => e = .returned (.bool true) ∧ Below w.heap.size w w' := by
  have i3 : ∀ (k : Nat), k < 3 → ∃ x y z u : Int, ∀ w, (Instr.index 26 (.agg #[.int .i64 ax, .int .i64 ay, .int .i64 bx, .int .i64 by_, .int .i64 (nearV ax), .int .i64 (nearV ay), .int .i64 (nearV bx), .int .i64 (nearV by_), .int .i64 (nearV ax), .int .i64 (nearV ay), .int .i64 bx, .int .i64 by_]) (.int .i64 (k : Int))).run Try.prog w = .ok (.agg #[.int .i64 x, .int .i64 y, .int .i64 z, .int .i64 u]) w := by
    intro k hk
    match k, hk with
    | 0, _ => exact ⟨ax, ay, bx, by_, fun _ => by kernel_rfl⟩
    | 1, _ => exact ⟨nearV ax, nearV ay, nearV bx, nearV by_, fun _ => by kernel_rfl⟩
    | 2, _ => exact ⟨nearV ax, nearV ay, bx, by_, fun _ => by kernel_rfl⟩
  have hA0 : At ((w.alloc (.cells #[.int .i64 ax, .int .i64 ay] 23)).alloc (.cells #[.int .i64 bx, .int .i64 by_] 23)) w.heap.size 23 #[.int .i64 ax, .int .i64 ay] := (At.new w _ _).alloc _
  have hE0 : At ((w.alloc (.cells #[.int .i64 ax, .int .i64 ay] 23)).alloc (.cells #[.int .i64 bx, .int .i64 by_] 23)) (w.heap.size + 1) 23 #[.int .i64 bx, .int .i64 by_] := At.new_ _ _ _ (by simp)
  have hb0 : Below w.heap.size w ((w.alloc (.cells #[.int .i64 ax, .int .i64 ay] 23)).alloc (.cells #[.int .i64 bx, .int .i64 by_] 23)) := ((Below.refl _ _).alloc (Nat.le_refl _) _).alloc (by simp) _
  go_enter Try.func3, Try.ntmps3
  go_wp2_with fail
  generalize ((w.alloc (.cells #[.int .i64 ax, .int .i64 ay] 23)).alloc (.cells #[.int .i64 bx, .int .i64 by_] 23)) = wA at *
  have a0 := hA0.cell 0
  have a1 := hA0.cell 1
  have b0 := hE0.cell 0
  have b1 := hE0.cell 1
  simp at a0 a1 b0 b1
  have ka0 := cell_regrown a0
  have ka1 := cell_regrown a1
  have kb0 := cell_regrown b0
  have kb1 := cell_regrown b1
  have cN := fun (x y : Int) (h1 : -9223372036854775808 ≤ x ∧ x ≤ 9223372036854775807) (h2 : -9223372036854775808 ≤ y ∧ y ≤ 9223372036854775807) d os => Calls.regrown_of (near_any x y h1 h2 (grow (redrawn wA d) os))
  refine wp_region_quiet_below (by kernel_rfl) (by kernel_rfl) ?_
  repeat (go_big_quiet_step (exact cN _ _ (by assumption) (by assumption) _ _))
  refine wpQuiet_nil ?_
  intro _ hw'
  obtain ⟨⟨dq, osq⟩, hw''⟩ := hw'
  subst hw''
  have hE := hb0.trans ((below_regrown wA dq osq).mono hb0.size)
  clear cN ka0 ka1 kb0 kb1 a0 a1 b0 b1 hA0 hE0 hb0
  generalize grow (redrawn wA dq) osq = wB at *
  go_wp2
  go_loopw [20] (fun i wr => ∃ k : Nat, k ≤ 3 ∧ i = .int .i64 k ∧ Below w.heap.size w wr) (fun i _ => 3 - (intOf i).toNat)
  case atStart => exact ⟨0, by omega, rfl, hE⟩
  case round =>
    clear hE
    obtain ⟨k, hk, rfl, hb⟩ := hrel
    by_cases hlt : k < 3
    · obtain ⟨X, Y, Z, U, hi⟩ := i3 k hlt
      clear i3
      have t3 : decide ((k : Int) < 3) = true := by rw [decide_eq_true_eq]; omega
      have hP : At (wr.alloc (.cells #[.int .i64 X, .int .i64 Y, .int .i64 Z, .int .i64 U] 24)) wr.heap.size 24 #[.int .i64 X, .int .i64 Y, .int .i64 Z, .int .i64 U] := At.new wr _ _
      have hbP := hb.alloc hb.size (.cells #[.int .i64 X, .int .i64 Y, .int .i64 Z, .int .i64 U] 24)
      go_wp2_with fail
      generalize (wr.alloc (.cells #[.int .i64 X, .int .i64 Y, .int .i64 Z, .int .i64 U] 24)) = wp at *
      generalize wr.heap.size = q at *
      clear hb hi
      have p0 := hP.cell 0
      have p1 := hP.cell 1
      have p2 := hP.cell 2
      have p3 := hP.cell 3
      simp at p0 p1 p2 p3
      have hl := Lib.hid (way_len (X, Y) (Z, U))
      obtain ⟨M, hM⟩ : ∃ M, mayB (X, Y) = M := ⟨_, rfl⟩
      have cM : ∀ w, Calls Try.prog 9 #[.agg #[.int .i64 X, .int .i64 Y]] w fun e w' => e = .returned (.bool M) ∧ Below w.heap.size w w' := fun w => by
        have := May_any X Y w
        rwa [hM] at this
      have cR : ∀ w, Calls Try.prog 10 #[.agg #[.int .i64 X, .int .i64 Y]] w fun e w' => e = .returned (.bool M) ∧ Below w.heap.size w w' := fun w => by
        have := refMay_any X Y w
        rwa [hM] at this
      have cM' := Lib.hid cM
      have cR' := Lib.hid cR
      clear hM cM cR
      cases M
      · skip
        go_region_held3 (fun w' => w'.cell? ⟨q, 0, none⟩ = some (.int .i64 X) ∧ w'.cell? ⟨q, 1, none⟩ = some (.int .i64 Y) ∧ w'.cell? ⟨q, 2, none⟩ = some (.int .i64 Z) ∧ w'.cell? ⟨q, 3, none⟩ = some (.int .i64 U))
          (first | go_keep | exact cells4 hb1 (by assumption) | exact cells4 hb2 (by assumption) | exact cells4 hb3 (by assumption) | exact cells4 hb4 (by assumption) | exact cells4 hb5 (by assumption) | exact cells4 hb6 (by assumption) | exact cells4 hb7 (by assumption))
          (first | (go_at_call 9; refine (cM'.out _).mono ?_; rintro e w1 ⟨rfl, hb1⟩) | (go_at_call 10; refine (cR'.out _).mono ?_; rintro e w2 ⟨rfl, hb2⟩) | (go_at_call 11; refine (Dist_any _ _ _ _ _).mono ?_; rintro e w3 ⟨rfl, hb3⟩) | (go_at_call 12; refine (refDist_any _ _ _ _ _).mono ?_; rintro e w4 ⟨rfl, hb4⟩) | (go_at_call 14; refine (Way_any _ _ _ _ _).mono ?_; rintro e w5 ⟨⟨v5, rfl, hr5⟩, hb5⟩) | (go_at_call 15; refine (refWay_any _ _ _ _ _).mono ?_; rintro e w6 ⟨⟨v6, rfl, hr6⟩, hb6⟩) | (go_at_call 13; refine (Same_alike _ _ (wayL (X, Y) (Z, U)) hl.out _ (hr5.keep hb6) hr6).mono ?_; rintro e w7 ⟨rfl, hb7⟩))
        have h1 := (below_drewN hbP 1).trans (hb1.mono hbP.size)
        have h2 := h1.trans (hb2.mono h1.size)
        have h3 := h2.trans (hb3.mono h2.size)
        have h4 := h3.trans (hb4.mono h3.size)
        have h5 := h4.trans (hb5.mono h4.size)
        have h6 := h5.trans (hb6.mono h5.size)
        have h7 := h6.trans (hb7.mono h6.size)
        clear hb1 hb2 hb3 hb4 hb5 hb6 hb7 hr5 hr6 h1 h2 h3 h4 h5 h6 hbP hP p0 p1 p2 p3
        go_wp2
        go_roundw
        case rel => exact ⟨k + 1, by omega, by go_num, h7⟩
        case measure => simp [intOf]; omega
      · skip
        go_region_held3 (fun w' => w'.cell? ⟨q, 0, none⟩ = some (.int .i64 X) ∧ w'.cell? ⟨q, 1, none⟩ = some (.int .i64 Y) ∧ w'.cell? ⟨q, 2, none⟩ = some (.int .i64 Z) ∧ w'.cell? ⟨q, 3, none⟩ = some (.int .i64 U))
          (first | go_keep | exact cells4 hb1 (by assumption) | exact cells4 hb2 (by assumption) | exact cells4 hb3 (by assumption) | exact cells4 hb4 (by assumption) | exact cells4 hb5 (by assumption) | exact cells4 hb6 (by assumption) | exact cells4 hb7 (by assumption))
          (first | (go_at_call 9; refine (cM'.out _).mono ?_; rintro e w1 ⟨rfl, hb1⟩) | (go_at_call 10; refine (cR'.out _).mono ?_; rintro e w2 ⟨rfl, hb2⟩) | (go_at_call 11; refine (Dist_any _ _ _ _ _).mono ?_; rintro e w3 ⟨rfl, hb3⟩) | (go_at_call 12; refine (refDist_any _ _ _ _ _).mono ?_; rintro e w4 ⟨rfl, hb4⟩) | (go_at_call 14; refine (Way_any _ _ _ _ _).mono ?_; rintro e w5 ⟨⟨v5, rfl, hr5⟩, hb5⟩) | (go_at_call 15; refine (refWay_any _ _ _ _ _).mono ?_; rintro e w6 ⟨⟨v6, rfl, hr6⟩, hb6⟩) | (go_at_call 13; refine (Same_alike _ _ (wayL (X, Y) (Z, U)) hl.out _ (hr5.keep hb6) hr6).mono ?_; rintro e w7 ⟨rfl, hb7⟩))
        have h1 := (below_drewN hbP 1).trans (hb1.mono hbP.size)
        have h2 := h1.trans (hb2.mono h1.size)
        have h3 := h2.trans (hb3.mono h2.size)
        have h4 := h3.trans (hb4.mono h3.size)
        have h5 := h4.trans (hb5.mono h4.size)
        have h6 := h5.trans (hb6.mono h5.size)
        have h7 := h6.trans (hb7.mono h6.size)
        clear hb1 hb2 hb3 hb4 hb5 hb6 hb7 hr5 hr6 h1 h2 h3 h4 h5 h6 hbP hP p0 p1 p2 p3
        go_wp2
        go_roundw
        case rel => exact ⟨k + 1, by omega, by go_num, h7⟩
        case measure => simp [intOf]; omega
    · obtain rfl : k = 3 := by omega
      go_wp2_with fail
      refine (works_any _).mono ?_
      rintro e w9 ⟨rfl, hb9⟩
      go_wp2
      go_ret
      exact ⟨rfl, hb.trans (hb9.mono hb.size)⟩

set_option maxRecDepth 100000 in
theorem lifted (os : Os) (started : os.Started) (H : Type) (enc : TypeId × Value → H) :
    ReturnsInHanded {} Try.checked os 3 .any (Rows.placeTellsSpec.pre6 enc Try.prog Try.f3 Rows.placeTellsRow.domain false) (Rows.placeTellsSpec.post enc Try.prog Try.f3 false true false false) := by
  refine returnsInHanded_of_change (C := Try.checked) own started (by kernel_rfl) Try.func3
    (ChangeSpec.witness6 (enc := enc) (C := Try.checked) false ⟨#[], #[.agg #[.int .i64 0, .int .i64 0], .agg #[.int .i64 0, .int .i64 0]], []⟩ 8 (by kernel_rfl) (by kernel_rfl) (by kernel_rfl) (by kernel_rfl)) ?_
  intro W base args ds gs before hval0 hW hcnd _
  have hval : ∀ (j : Nat) t v, Try.f3.params[j]? = some t → args[j]? = some v → Value.okWide Try.prog W .any base t v := hval0
  have hW' := hW
  obtain ⟨p, q, hA0, hV, rfl, hfz, hnd⟩ := hW
  have hA : DataW.TrodAll enc Try.prog W 0 (fun _ => true) true Try.f3.params.toList args.toList ds p := hA0
  rw [Try.params3] at hA hval
  obtain ⟨v0, vs0, d0, ds0, p0, q0, hargs, rfl, rfl, h0, r0⟩ := trodAll_cons hA
  obtain ⟨v1, vs1, d1, ds1, p1, q1, rfl, rfl, rfl, h1, r1⟩ := trodAll_cons r0
  obtain ⟨rfl, rfl, rfl⟩ := trodAll_nil r1
  obtain rfl : args = #[v0, v1] := by cases args; simp_all
  obtain ⟨rfl, rfl⟩ := trodVars_none hV
  obtain ⟨x0, y0, rfl, wx0, wy0⟩ := openPlace (hval 0 23 v0 rfl rfl) h0
  obtain ⟨x1, y1, rfl, wx1, wy1⟩ := openPlace (hval 1 23 v1 rfl rfl) h1
  exact (walk x0 y0 x1 y1 (wf_ends wx0) (wf_ends wy0) (wf_ends wx1) (wf_ends wy1) W).mono fun e W' ⟨he, hb⟩ => ⟨_, he, Close.law_post laidOut (by kernel_rfl) rfl (by kernel_rfl) Try.underlying4 hW' rfl hb⟩

theorem over : Rows.placeTellsRow.holds Try.pinned (OpenSpec.ofChange Rows.placeTellsSpec) :=
  OpenClaim.holds_of_wide 3 Try.f3 rfl rfl rfl rfl rfl rfl rfl ⟨rfl, rfl, rfl, rfl, rfl⟩ rfl rfl rfl rfl rfl (by kernel_rfl) Try.func3 (by kernel_rfl)
    (of_decide_eq_true (by kernel_rfl)) (by unfold Func.isWrapper; first | (rw [if_pos (by decide +kernel)]; kernel_rfl) | (rw [if_neg (by decide +kernel)]; exact ⟨rfl, rfl⟩))
    (fun os started H enc _ => lifted os started H enc)

theorem proved : Rows.PlaceTellsSaid := over
#print axioms proved

end Go.Proofs.Ytjojdfbjecbhnaa.placeTells
