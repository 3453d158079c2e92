/-
  consignlaw01.NumBounds returns true for all three numbers: Within and Clamp, by each other. No condition.
-/
import Derived.Test.YthipniehnniibaaNumWorks
import Derived.Test.YthipniehnniibaaClose
namespace Go.Proofs.Ythipniehnniibaa.numBounds
open Go.ChangeShapes Go.WideShapes Go.ChangeAt Go.RowKit Go.Proofs.Ythipniehnniibaa.Num
set_option linter.unusedVariables false

theorem within_yes {n a b : Int} (h1 : a ≤ n) (h2 : n ≤ b) : withinB n a b = true := by simp [withinB, h1, h2]
theorem within_no {n a b : Int} (h : n < a ∨ b < n) : withinB n a b = false := by simp [withinB]; omega
theorem ne_of {a b : Int} (h : a ≠ b) : (a != b) = true := by rw [bne_iff_ne]; exact h
theorem lt_yes {a b : Int} (h : a < b) : decide (a < b) = true := by simpa using h
theorem le_yes {a b : Int} (h : a ≤ b) : decide (a ≤ b) = true := by simpa using h
theorem lt_no {a b : Int} (h : ¬ a < b) : decide (a < b) = false := by simpa using h
theorem le_no {a b : Int} (h : ¬ a ≤ b) : decide (a ≤ b) = false := by simpa using h

set_option maxRecDepth 100000 in
set_option maxHeartbeats 2000000 in
theorem walk (n a b : Int) (w : World) :
    Calls Try.prog 6 #[.int .i64 n, .int .i64 a, .int .i64 b] w fun e w' => e = .returned (.bool true) ∧ Below w.heap.size w w' := by
  have i0 : ∀ w, (Instr.index 24 (.agg #[.int .i64 n, .int .i64 a]) (.int .i64 0)).run Try.prog w = .ok (.int .i64 n) w := fun _ => by kernel_rfl
  have i1 : ∀ w, (Instr.index 24 (.agg #[.int .i64 n, .int .i64 a]) (.int .i64 1)).run Try.prog w = .ok (.int .i64 a) w := fun _ => by kernel_rfl
  go_enter Try.func6, Try.ntmps6
  go_wp2_with fail
  refine (works_any _).mono ?_
  rintro e w1 ⟨rfl, hb1⟩
  go_wp2_with fail
  go_loop [16] (fun i => i = .int .i64 0 ∨ i = .int .i64 1 ∨ i = .int .i64 2) (fun i => 2 - (intOf i).toNat)
  case atStart => exact .inl rfl
  case round =>
    rcases hrel with rfl | rfl | rfl
    · by_cases h1 : n < a
      · by_cases h2 : a ≤ b
        · have hc := clampV_lo (b := b) h1
          have hw := within_no (n := n) (a := a) (b := b) (.inl h1)
          have hn : (a != n) = true := ne_of (by omega)
          have hw2 := within_yes (Int.le_refl a) h2
          go_wp2_with (first
            | (go_at_call 19; refine (Clamp_any _ _ _ _).mono ?_; rintro e w' ⟨rfl, rfl⟩)
            | (go_at_call 20; refine (Within_any _ _ _ _).mono ?_; rintro e w' ⟨rfl, rfl⟩))
          go_round
          case rel => exact .inr (.inl rfl)
          case measure => simp [intOf]
        · have hc := clampV_lo (b := b) h1
          have hw := within_no (n := n) (a := a) (b := b) (.inl h1)
          have hn : (a != n) = true := ne_of (by omega)
          go_wp2_with (first
            | (go_at_call 19; refine (Clamp_any _ _ _ _).mono ?_; rintro e w' ⟨rfl, rfl⟩)
            | (go_at_call 20; refine (Within_any _ _ _ _).mono ?_; rintro e w' ⟨rfl, rfl⟩))
          go_round
          case rel => exact .inr (.inl rfl)
          case measure => simp [intOf]
      · by_cases h3 : b < n
        · by_cases h2 : a ≤ b
          · by_cases hba2 : b = a
            · have hc := clampV_hi h1 h3
              have hw := within_no (n := n) (a := a) (b := b) (.inr h3)
              have hn : (b != n) = true := ne_of (by omega)
              have hw2 := within_yes h2 (Int.le_refl b)
              have hba3 : (b != a) = false := by rw [hba2]; simp
              have hba4 : b ≤ a := by omega
              clear hba2
              go_wp2_with (first
                | (go_at_call 19; refine (Clamp_any _ _ _ _).mono ?_; rintro e w' ⟨rfl, rfl⟩)
                | (go_at_call 20; refine (Within_any _ _ _ _).mono ?_; rintro e w' ⟨rfl, rfl⟩))
              go_round
              case rel => exact .inr (.inl rfl)
              case measure => simp [intOf]
            · have hc := clampV_hi h1 h3
              have hw := within_no (n := n) (a := a) (b := b) (.inr h3)
              have hn : (b != n) = true := ne_of (by omega)
              have hw2 := within_yes h2 (Int.le_refl b)
              have hba3 : (b != a) = true := ne_of hba2
              clear hba2
              go_wp2_with (first
                | (go_at_call 19; refine (Clamp_any _ _ _ _).mono ?_; rintro e w' ⟨rfl, rfl⟩)
                | (go_at_call 20; refine (Within_any _ _ _ _).mono ?_; rintro e w' ⟨rfl, rfl⟩))
              go_round
              case rel => exact .inr (.inl rfl)
              case measure => simp [intOf]
          · have hc := clampV_hi h1 h3
            have hw := within_no (n := n) (a := a) (b := b) (.inr h3)
            have hn : (b != n) = true := ne_of (by omega)
            have hn2 : (b != a) = true := ne_of (by omega)
            go_wp2_with (first
              | (go_at_call 19; refine (Clamp_any _ _ _ _).mono ?_; rintro e w' ⟨rfl, rfl⟩)
              | (go_at_call 20; refine (Within_any _ _ _ _).mono ?_; rintro e w' ⟨rfl, rfl⟩))
            go_round
            case rel => exact .inr (.inl rfl)
            case measure => simp [intOf]
        · have hc := clampV_in h1 h3
          have hw := within_yes (n := n) (a := a) (b := b) (by omega) (by omega)
          have h2 : a ≤ b := by omega
          go_wp2_with (first
            | (go_at_call 19; refine (Clamp_any _ _ _ _).mono ?_; rintro e w' ⟨rfl, rfl⟩)
            | (go_at_call 20; refine (Within_any _ _ _ _).mono ?_; rintro e w' ⟨rfl, rfl⟩))
          go_round
          case rel => exact .inr (.inl rfl)
          case measure => simp [intOf]
    · by_cases h2 : a ≤ b
      · have hc := clampV_in (n := a) (a := a) (b := b) (by omega) (by omega)
        have hw := within_yes (n := a) (a := a) (b := b) (by omega) (by omega)
        go_wp2_with (first
          | (go_at_call 19; refine (Clamp_any _ _ _ _).mono ?_; rintro e w' ⟨rfl, rfl⟩)
          | (go_at_call 20; refine (Within_any _ _ _ _).mono ?_; rintro e w' ⟨rfl, rfl⟩))
        go_round
        case rel => exact .inr (.inr rfl)
        case measure => simp [intOf]
      · have hc := clampV_hi (n := a) (a := a) (b := b) (by omega) (by omega)
        have hw := within_no (n := a) (a := a) (b := b) (.inr (by omega))
        have hn : (b != a) = true := ne_of (by omega)
        go_wp2_with (first
          | (go_at_call 19; refine (Clamp_any _ _ _ _).mono ?_; rintro e w' ⟨rfl, rfl⟩)
          | (go_at_call 20; refine (Within_any _ _ _ _).mono ?_; rintro e w' ⟨rfl, rfl⟩))
        go_round
        case rel => exact .inr (.inr rfl)
        case measure => simp [intOf]
    · go_wp2
      go_ret
      exact ⟨rfl, hb1⟩

set_option maxRecDepth 100000 in
theorem lifted (os : Os) (started : os.Started) (H : Type) (enc : TypeId × Value → H) :
    ReturnsInHanded {} Try.checked os 6 .any (Rows.numBoundsSpec.pre6 enc Try.prog Try.f6 Rows.numBoundsRow.domain false) (Rows.numBoundsSpec.post enc Try.prog Try.f6 false true false false) := by
  refine returnsInHanded_of_change (C := Try.checked) own started (by kernel_rfl) Try.func6
    (ChangeSpec.witness6 (enc := enc) (C := Try.checked) false ⟨#[], #[.int .i64 0, .int .i64 0, .int .i64 0], []⟩ 8 (by kernel_rfl) (by kernel_rfl) (by kernel_rfl) (by kernel_rfl)) ?_
  intro W base args ds gs before hval0 hW hcnd _
  have hval : ∀ (j : Nat) t v, Try.f6.params[j]? = some t → args[j]? = some v → Value.okWide Try.prog W .any base t v := hval0
  have hW' := hW
  obtain ⟨p, q, hA0, hV, rfl, hfz, hnd⟩ := hW
  have hA : DataW.TrodAll enc Try.prog W 0 (fun _ => true) true Try.f6.params.toList args.toList ds p := hA0
  rw [Try.params6] at hA hval
  obtain ⟨v0, vs0, d0, ds0, p0, q0, hargs, rfl, rfl, h0, r0⟩ := trodAll_cons hA
  obtain ⟨v1, vs1, d1, ds1, p1, q1, rfl, rfl, rfl, h1, r1⟩ := trodAll_cons r0
  obtain ⟨v2, vs2, d2, ds2, p2, q2, rfl, rfl, rfl, h2, r2⟩ := trodAll_cons r1
  obtain ⟨rfl, rfl, rfl⟩ := trodAll_nil r2
  obtain rfl : args = #[v0, v1, v2] := by cases args; simp_all
  obtain ⟨rfl, rfl⟩ := trodVars_none hV
  obtain ⟨a0, rfl, rfl, rfl, w0⟩ := open_int Try.underlying2 (hval 0 2 v0 rfl rfl) h0
  obtain ⟨a1, rfl, rfl, rfl, w1⟩ := open_int Try.underlying2 (hval 1 2 v1 rfl rfl) h1
  obtain ⟨a2, rfl, rfl, rfl, w2⟩ := open_int Try.underlying2 (hval 2 2 v2 rfl rfl) h2
  exact (walk a0 a1 a2 W).mono fun e W' ⟨he, hb⟩ => ⟨_, he, Close.law_post laidOut (by kernel_rfl) rfl (by kernel_rfl) Try.underlying4 hW' rfl hb⟩

theorem over : Rows.numBoundsRow.holds Try.pinned (OpenSpec.ofChange Rows.numBoundsSpec) :=
  OpenClaim.holds_of_wide 6 Try.f6 rfl rfl rfl rfl rfl rfl rfl ⟨rfl, rfl, rfl, rfl, rfl⟩ rfl rfl rfl rfl rfl (by kernel_rfl) Try.func6 (by kernel_rfl)
    (of_decide_eq_true (by kernel_rfl)) (by unfold Func.isWrapper; first | (rw [if_pos (by decide +kernel)]; kernel_rfl) | (rw [if_neg (by decide +kernel)]; exact ⟨rfl, rfl⟩))
    (fun os started H enc _ => lifted os started H enc)

theorem proved : Rows.NumBoundsSaid := over
#print axioms proved

end Go.Proofs.Ythipniehnniibaa.numBounds
