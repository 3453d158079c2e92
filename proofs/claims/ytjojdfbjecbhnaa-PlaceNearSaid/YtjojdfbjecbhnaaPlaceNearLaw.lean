/-
  consignlaw02.PlaceNear returns true for every place and number: which places are near one, and in which order, is as the document says. No condition.
-/
import Derived.Test.YtjojdfbjecbhnaaPlaceWorks
import Derived.Test.YtjojdfbjecbhnaaPlaceOpen
namespace Go.Proofs.Ytjojdfbjecbhnaa.placeNear
open Go.ChangeShapes Go.WideShapes Go.ChangeAt Go.RowKit Go.Sort Go.Proofs.Ytjojdfbjecbhnaa.Place Go.Proofs.Ytjojdfbjecbhnaa.Mem
set_option linter.unusedVariables false

/-- A small number out of any one. -/
def modV (n m : Int) : Int := n % 18446744073709551616 % m
theorem mod_bd {n m : Int} (h : 0 < m) : 0 ≤ modV n m ∧ modV n m < m := by unfold modV; exact ⟨Int.emod_nonneg _ (by omega), Int.emod_lt_of_pos _ h⟩
theorem mod9 (x : Int) : wrap64 ((IntKind.u64.wrap x).tmod 9) = modV x 9 := by
  rw [u64_wrap, Int.tmod_eq_emod_of_nonneg (by omega)]
  unfold modV wrap64
  omega
theorem mod18 (x : Int) : wrap64 ((IntKind.u64.wrap x).tmod 18) = modV x 18 := by
  rw [u64_wrap, Int.tmod_eq_emod_of_nonneg (by omega)]
  unfold modV wrap64
  omega

theorem cells2 {W W' : World} {n : Nat} {x y : Value} (hb : Below W.heap.size W W') (h : W.cell? ⟨n, 0, none⟩ = some x ∧ W.cell? ⟨n, 1, none⟩ = some y) : W'.cell? ⟨n, 0, none⟩ = some x ∧ W'.cell? ⟨n, 1, none⟩ = some y :=
  ⟨(hb.cell (p := ⟨n, 0, none⟩) (block_lt_of_cell h.1)).trans h.1, (hb.cell (p := ⟨n, 1, none⟩) (block_lt_of_cell h.2)).trans h.2⟩

theorem Same_alike (sv tv : Value) (xs : List (Int × Int)) (hx : xs.length ≤ 140737488351232) (w : World) (hI : Place.Rows w.heap.size w sv xs) (hJ : Place.Rows w.heap.size w tv xs) :
    Calls Try.prog 13 #[sv, tv] w fun e w' => e = .returned (.bool true) ∧ Below w.heap.size w w' := by
  have := Same_any sv tv xs xs hx w hI hJ
  rwa [show decide (xs = xs) = true by simp] at this

theorem near_len (X Y F : Int) : (nearL (X, Y) F).length ≤ 140737488351232 := by
  unfold nearL
  split
  · rename_i h
    simp only [Bool.and_eq_true, decide_eq_true_eq] at h
    have := nearN_length (p := (X, Y)) h.2 (rowsC (X, Y) F)
    have : rowsC (X, Y) F ≤ 33 := by unfold rowsC x0 x1; simp only; omega
    omega
  · simp

set_option maxRecDepth 100000 in
set_option maxHeartbeats 4000000 in
theorem walk (ax ay far : Int) (hx : -9223372036854775808 ≤ ax ∧ ax ≤ 9223372036854775807) (hy : -9223372036854775808 ≤ ay ∧ ay ≤ 9223372036854775807) (w : World) :
    Calls Try.prog 4 #[.agg #[.int .i64 ax, .int .i64 ay], .int .i64 far] w fun e w' => e = .returned (.bool true) ∧ Below w.heap.size w w' := by
  have r1 := mod_bd (n := ax) (show (0 : Int) < 9 by decide)
  have r2 := mod_bd (n := ay) (show (0 : Int) < 9 by decide)
  have r3 := mod_bd (n := far) (show (0 : Int) < 18 by decide)
  have e1 := mod9 ax
  have e2 := mod9 ay
  have e3 := mod18 far
  generalize modV ax 9 = EX at *
  generalize modV ay 9 = EY at *
  generalize modV far 18 = FF at *
  have i3 : ∀ (k : Nat), k < 3 → ∃ x y : Int, ∀ w, (Instr.index 35 (.agg #[.int .i64 ax, .int .i64 ay, .int .i64 (nearV ax), .int .i64 (nearV ay), .int .i64 EX, .int .i64 (1023 - EY)]) (.int .i64 (k : Int))).run Try.prog w = .ok (.agg #[.int .i64 x, .int .i64 y]) w := by
    intro k hk
    match k, hk with
    | 0, _ => exact ⟨ax, ay, fun _ => by kernel_rfl⟩
    | 1, _ => exact ⟨nearV ax, nearV ay, fun _ => by kernel_rfl⟩
    | 2, _ => exact ⟨EX, 1023 - EY, fun _ => by kernel_rfl⟩
  have i2 : ∀ (k : Nat), k < 2 → ∃ x : Int, ∀ w, (Instr.index 36 (.agg #[.int .i64 far, .int .i64 (FF - 1)]) (.int .i64 (k : Int))).run Try.prog w = .ok (.int .i64 x) w := by
    intro k hk
    match k, hk with
    | 0, _ => exact ⟨far, fun _ => by kernel_rfl⟩
    | 1, _ => exact ⟨FF - 1, fun _ => by kernel_rfl⟩
  have hA0 : At ((w.alloc (.cells #[.int .i64 ax, .int .i64 ay] 23)).alloc (.cells #[.int .i64 EX, .int .i64 (1023 - EY)] 23)) w.heap.size 23 #[.int .i64 ax, .int .i64 ay] := (At.new w _ _).alloc _
  have hE0 : At ((w.alloc (.cells #[.int .i64 ax, .int .i64 ay] 23)).alloc (.cells #[.int .i64 EX, .int .i64 (1023 - EY)] 23)) (w.heap.size + 1) 23 #[.int .i64 EX, .int .i64 (1023 - EY)] := At.new_ _ _ _ (by simp)
  have hb0 : Below w.heap.size w ((w.alloc (.cells #[.int .i64 ax, .int .i64 ay] 23)).alloc (.cells #[.int .i64 EX, .int .i64 (1023 - EY)] 23)) := ((Below.refl _ _).alloc (Nat.le_refl _) _).alloc (by simp) _
  go_enter Try.func4, Try.ntmps4
  go_wp2_with fail
  generalize ((w.alloc (.cells #[.int .i64 ax, .int .i64 ay] 23)).alloc (.cells #[.int .i64 EX, .int .i64 (1023 - EY)] 23)) = wA at *
  have a0 := hA0.cell 0
  have a1 := hA0.cell 1
  have b0 := hE0.cell 0
  have b1 := hE0.cell 1
  simp at a0 a1 b0 b1
  have ka0 := cell_regrown a0
  have ka1 := cell_regrown a1
  have kb0 := cell_regrown b0
  have kb1 := cell_regrown b1
  have cN := fun d os => Calls.regrown_of (near_any ax ay hx hy (grow (redrawn wA d) os))
  refine wp_region_quiet_below (by kernel_rfl) (by kernel_rfl) ?_
  repeat (go_big_quiet_step (exact cN _ _))
  refine wpQuiet_nil ?_
  intro _ hw'
  obtain ⟨⟨dq, osq⟩, hw''⟩ := hw'
  subst hw''
  have hE := hb0.trans ((below_regrown wA dq osq).mono hb0.size)
  clear cN ka0 ka1 kb0 kb1 a0 a1 b0 b1 hA0 hE0 hb0 e1 e2
  generalize grow (redrawn wA dq) osq = wB at *
  go_wp2
  go_loopw [27] (fun i wr => ∃ k : Nat, k ≤ 3 ∧ i = .int .i64 k ∧ Below w.heap.size w wr) (fun i _ => 3 - (intOf i).toNat)
  case atStart => exact ⟨0, by omega, rfl, hE⟩
  case round =>
    clear hE
    obtain ⟨k, hk, rfl, hb⟩ := hrel
    by_cases hlt : k < 3
    · obtain ⟨X, Y, hi⟩ := i3 k hlt
      clear i3
      have t3 : decide ((k : Int) < 3) = true := by rw [decide_eq_true_eq]; omega
      have hP : At (wr.alloc (.cells #[.int .i64 X, .int .i64 Y] 23)) wr.heap.size 23 #[.int .i64 X, .int .i64 Y] := At.new wr _ _
      have hbP := hb.alloc hb.size (.cells #[.int .i64 X, .int .i64 Y] 23)
      go_wp2
      generalize (wr.alloc (.cells #[.int .i64 X, .int .i64 Y] 23)) = wp at *
      generalize wr.heap.size = q at *
      clear hb hi
      go_loopw [37] (fun i ws => ∃ m : Nat, m ≤ 2 ∧ i = .int .i64 m ∧ Below w.heap.size w ws ∧ At ws q 23 #[.int .i64 X, .int .i64 Y]) (fun i _ => 2 - (intOf i).toNat)
      case atStart => exact ⟨0, by omega, rfl, hbP, hP⟩
      case round =>
        clear hbP hP
        obtain ⟨m, hm, rfl, hb, hP⟩ := hrel
        have hlt' := Lib.hid hlt
        clear hlt e3
        by_cases hlt2 : m < 2
        · obtain ⟨F, hi⟩ := i2 m hlt2
          clear i2
          have p0 := hP.cell 0
          have p1 := hP.cell 1
          simp at p0 p1
          have hl := Lib.hid (show (nearL (X, Y) F).length ≤ 140737488351232 from near_len X Y F)
          go_wp2
          go_region_held3 (fun w' => w'.cell? ⟨q, 0, none⟩ = some (.int .i64 X) ∧ w'.cell? ⟨q, 1, none⟩ = some (.int .i64 Y))
            (first | go_keep | exact cells2 hb5 (by assumption) | exact cells2 hb6 (by assumption) | exact cells2 hb7 (by assumption))
            (first | (go_at_call 17; refine (Near_any _ _ _ _).mono ?_; rintro e w5 ⟨⟨v5, rfl, hr5⟩, hb5⟩) | (go_at_call 18; refine (refNear_any _ _ _ _).mono ?_; rintro e w6 ⟨⟨v6, rfl, hr6⟩, hb6⟩) | (go_at_call 13; refine (Same_alike _ _ (nearL (X, Y) F) hl.out _ (hr5.keep hb6) hr6).mono ?_; rintro e w7 ⟨rfl, hb7⟩))
          have h5 := (below_drewN hb 1).trans (hb5.mono hb.size)
          have h6 := h5.trans (hb6.mono h5.size)
          have h7 := h6.trans (hb7.mono h6.size)
          have P5 := (hP.drewN 1).keep hb5 hP.inside
          have P6 := P5.keep hb6 P5.inside
          have P7 := P6.keep hb7 P6.inside
          clear hb5 hb6 hb7 hr5 hr6 h5 h6 P5 P6 hb hP p0 p1
          go_wp2
          go_roundw
          case rel => exact ⟨m + 1, by omega, by go_num, h7, P7⟩
          case measure => simp [intOf]; omega
        · obtain rfl : m = 2 := by omega
          go_wp2
          have hlt := hlt'.out
          go_roundw
          case rel => exact ⟨k + 1, by omega, by go_num, hb⟩
          case measure => simp [intOf]; omega
    · obtain rfl : k = 3 := by omega
      go_wp2_with fail
      refine (works_any _).mono ?_
      rintro e w9 ⟨rfl, hb9⟩
      go_wp2
      go_ret
      exact ⟨rfl, hb.trans (hb9.mono hb.size)⟩

set_option maxRecDepth 100000 in
theorem lifted (os : Os) (started : os.Started) (H : Type) (enc : TypeId × Value → H) :
    ReturnsInHanded {} Try.checked os 4 .any (Rows.placeNearSpec.pre6 enc Try.prog Try.f4 Rows.placeNearRow.domain false) (Rows.placeNearSpec.post enc Try.prog Try.f4 false true false false) := by
  refine returnsInHanded_of_change (C := Try.checked) own started (by kernel_rfl) Try.func4
    (ChangeSpec.witness6 (enc := enc) (C := Try.checked) false ⟨#[], #[.agg #[.int .i64 0, .int .i64 0], .int .i64 0], []⟩ 8 (by kernel_rfl) (by kernel_rfl) (by kernel_rfl) (by kernel_rfl)) ?_
  intro W base args ds gs before hval0 hW hcnd _
  have hval : ∀ (j : Nat) t v, Try.f4.params[j]? = some t → args[j]? = some v → Value.okWide Try.prog W .any base t v := hval0
  have hW' := hW
  obtain ⟨p, q, hA0, hV, rfl, hfz, hnd⟩ := hW
  have hA : DataW.TrodAll enc Try.prog W 0 (fun _ => true) true Try.f4.params.toList args.toList ds p := hA0
  rw [Try.params4] at hA hval
  obtain ⟨v0, vs0, d0, ds0, p0, q0, hargs, rfl, rfl, h0, r0⟩ := trodAll_cons hA
  obtain ⟨v1, vs1, d1, ds1, p1, q1, rfl, rfl, rfl, h1, r1⟩ := trodAll_cons r0
  obtain ⟨rfl, rfl, rfl⟩ := trodAll_nil r1
  obtain rfl : args = #[v0, v1] := by cases args; simp_all
  obtain ⟨rfl, rfl⟩ := trodVars_none hV
  obtain ⟨x0, y0, rfl, wx0, wy0⟩ := openPlace (hval 0 23 v0 rfl rfl) h0
  obtain ⟨a1, rfl, rfl, rfl, w1⟩ := open_int Try.underlying3 (hval 1 3 v1 rfl rfl) h1
  exact (walk x0 y0 a1 (wf_ends wx0) (wf_ends wy0) W).mono fun e W' ⟨he, hb⟩ => ⟨_, he, Close.law_post laidOut (by kernel_rfl) rfl (by kernel_rfl) Try.underlying4 hW' rfl hb⟩

theorem over : Rows.placeNearRow.holds Try.pinned (OpenSpec.ofChange Rows.placeNearSpec) :=
  OpenClaim.holds_of_wide 4 Try.f4 rfl rfl rfl rfl rfl rfl rfl ⟨rfl, rfl, rfl, rfl, rfl⟩ rfl rfl rfl rfl rfl (by kernel_rfl) Try.func4 (by kernel_rfl)
    (of_decide_eq_true (by kernel_rfl)) (by unfold Func.isWrapper; first | (rw [if_pos (by decide +kernel)]; kernel_rfl) | (rw [if_neg (by decide +kernel)]; exact ⟨rfl, rfl⟩))
    (fun os started H enc _ => lifted os started H enc)

theorem proved : Rows.PlaceNearSaid := over
#print axioms proved

end Go.Proofs.Ytjojdfbjecbhnaa.placeNear
