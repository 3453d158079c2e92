/-
  consignlaw03.WindowWaits returns true for all windows by small numbers, times and shifts: who waits begins in the window, not ahead of when it came, and as early as may be; who comes later does not begin earlier; shifted, all of it is as much later. No condition.
-/
import Derived.Test.YtljpcicahhfkpaaWindowWorks
import Derived.Test.YtljpcicahhfkpaaWindowOpen
namespace Go.Proofs.Ytljpcicahhfkpaa.windowWaits
open Go.ChangeShapes Go.WideShapes Go.ChangeAt Go.RowKit Go.Sort Go.Proofs.Ytljpcicahhfkpaa.Window Go.Proofs.Ytljpcicahhfkpaa.Mem
set_option linter.unusedVariables false

set_option maxRecDepth 100000 in
set_option maxHeartbeats 4000000 in
theorem walk (x0 x1 t0 t1 d : Int) (hx0 : 0 ≤ x0 ∧ x0 ≤ 255) (hx1 : 0 ≤ x1 ∧ x1 ≤ 255) (ht0 : -128 ≤ t0 ∧ t0 ≤ 127) (ht1 : -128 ≤ t1 ∧ t1 ≤ 127) (hd : -128 ≤ d ∧ d ≤ 127) (w : World) :
    Calls Try.prog 5 #[.agg #[.int .u8 x0, .int .u8 x1], .agg #[.int .i8 t0, .int .i8 t1], .int .i8 d] w fun e w' => e = .returned (.bool true) ∧ Below w.heap.size w w' := by
  have hX0 : At ((w.alloc (.cells #[.int .u8 x0, .int .u8 x1] 40)).alloc (.cells #[.int .i8 t0, .int .i8 t1] 42)) w.heap.size 40 #[.int .u8 x0, .int .u8 x1] := (At.new w _ _).alloc _
  have hT0 : At ((w.alloc (.cells #[.int .u8 x0, .int .u8 x1] 40)).alloc (.cells #[.int .i8 t0, .int .i8 t1] 42)) (w.heap.size + 1) 42 #[.int .i8 t0, .int .i8 t1] := At.new_ _ _ _ (by simp)
  have hb0 : Below w.heap.size w ((w.alloc (.cells #[.int .u8 x0, .int .u8 x1] 40)).alloc (.cells #[.int .i8 t0, .int .i8 t1] 42)) := by
    repeat (first | exact Below.refl _ _ | refine Below.alloc ?_ (by simp <;> omega) _)
  obtain ⟨hx00, hx01⟩ := hx0
  obtain ⟨hx10, hx11⟩ := hx1
  obtain ⟨ht00, ht01⟩ := ht0
  obtain ⟨ht10, ht11⟩ := ht1
  obtain ⟨hd0, hd1⟩ := hd
  go_enter Try.func5, Try.ntmps5
  go_wp2_with fail
  generalize ((w.alloc (.cells #[.int .u8 x0, .int .u8 x1] 40)).alloc (.cells #[.int .i8 t0, .int .i8 t1] 42)) = w0 at *
  refine (works_any _).mono ?_
  rintro e w1 ⟨rfl, hb1⟩
  have hX1 := hX0.keep hb1 hX0.inside
  have hT1 := hT0.keep hb1 hT0.inside
  have hB1 := hb0.trans (hb1.mono hb0.size)
  clear hX0 hT0 hb0 hb1 w0
  have x0' := hX1.cell 0
  have x1' := hX1.cell 1
  simp at x0' x1'
  go_wp2_with (go_at_call 18; refine (span_ex _ _ _).mono ?_; rintro e w' ⟨rfl, rfl⟩)
  have hW1 : At ((w1.alloc (.cells #[.int .i64 (x0 % 90), .int .i64 (x0 % 90 + x1 % 90)] 23)).alloc (.cells #[.int .i64 (x0 % 90), .int .i64 (x0 % 90 + x1 % 90)] 23)) (w1.heap.size + 1) 23 #[.int .i64 (x0 % 90), .int .i64 (x0 % 90 + x1 % 90)] := At.new_ _ _ _ (by simp)
  have hT1' := (hT1.alloc (.cells #[.int .i64 (x0 % 90), .int .i64 (x0 % 90 + x1 % 90)] 23)).alloc (.cells #[.int .i64 (x0 % 90), .int .i64 (x0 % 90 + x1 % 90)] 23)
  have hB1' := (hB1.alloc hB1.size (.cells #[.int .i64 (x0 % 90), .int .i64 (x0 % 90 + x1 % 90)] 23)).alloc (by have := hB1.size; simp; omega) (.cells #[.int .i64 (x0 % 90), .int .i64 (x0 % 90 + x1 % 90)] 23)
  generalize ((w1.alloc (.cells #[.int .i64 (x0 % 90), .int .i64 (x0 % 90 + x1 % 90)] 23)).alloc (.cells #[.int .i64 (x0 % 90), .int .i64 (x0 % 90 + x1 % 90)] 23)) = w2 at *
  generalize w1.heap.size + 1 = g at *
  clear hX1 hT1 hB1 x0' x1' w1
  have hP0 : 0 ≤ x0 % 90 := by omega
  have hPQ : x0 % 90 ≤ x0 % 90 + x1 % 90 := by omega
  have hQ1 : x0 % 90 + x1 % 90 ≤ 178 := by omega
  generalize x0 % 90 + x1 % 90 = Q at *
  generalize x0 % 90 = P at *
  have t0' := hT1'.cell 0
  have t1' := hT1'.cell 1
  simp at t0' t1'
  go_quiet (fail)
  have hW2 := hW1.drewN nq
  have hB2 := below_drewN hB1' nq
  generalize w2.drewN nq = w3 at *
  clear hW1 hB1' hT1' t0' t1' w2
  have hEL : min t0 t1 ≤ max t0 t1 := by omega
  have hE0 : -128 ≤ min t0 t1 := by omega
  have hL1 : max t0 t1 ≤ 127 := by omega
  generalize min t0 t1 = E at *
  generalize max t0 t1 = L at *
  clear ht00 ht01 ht10 ht11
  have okw : okB P Q = true := (okB_iff _ _).2 ⟨hP0, hPQ, by omega⟩
  have hB3 := hB2
  have hW3 := hW2
  clear hB2 hW2
  have c0_hW := hW3.cell 0
  have c1_hW := hW3.cell 1
  simp at c0_hW c1_hW
  go_wp2_with fail
  refine (Wait_any _ _ _ _).mono ?_
  rintro e w4 ⟨rfl, hb4⟩
  have hB4 := hB3.trans (hb4.mono hB3.size)
  have hW4 := hW3.keep hb4 hW3.inside
  clear hb4 hB3 hW3 c0_hW c1_hW
  have c0_hW := hW4.cell 0
  have c1_hW := hW4.cell 1
  simp at c0_hW c1_hW
  go_wp2_with fail
  refine (Wait_any _ _ _ _).mono ?_
  rintro e w5 ⟨rfl, hb5⟩
  have hB5 := hB4.trans (hb5.mono hB4.size)
  have hW5 := hW4.keep hb5 hW4.inside
  clear hb5 hB4 hW4 c0_hW c1_hW
  by_cases hE : E ≤ Q
  · have e1 : waitB P Q E = true := (waitB_iff _ _ _).2 ⟨⟨hP0, hPQ, by omega⟩, hE⟩
    obtain ⟨A, hA⟩ : ∃ A, A = max E P := ⟨_, rfl⟩
    have e2 : waitV P Q E = A := by
      unfold waitV
      rw [e1, orNil_t, hA]
    have hAin : hasB P Q A = true := (hasB_iff _ _ _).2 ⟨⟨hP0, hPQ, by omega⟩, by omega, by omega⟩
    have n1 : ¬ A < E := by omega
    obtain ⟨B, hB⟩ : ∃ B, B = waitV P Q L := ⟨_, rfl⟩
    obtain ⟨F, hF⟩ : ∃ F, F = waitB P Q L := ⟨_, rfl⟩
    have hBA : F = true → ¬ B < A := by
      rintro rfl
      rw [hB, waitV, ← hF, orNil_t]
      omega
    rw [e1, e2, ← hB, ← hF]
    clear e1 e2 hB hF
    have hA1 : E ≤ A := by omega
    have hA2 : P ≤ A := by omega
    have hA3 : A ≤ Q := by omega
    have hA4 : A ≤ E ∨ A ≤ P := by omega
    clear hA
    cases F
    · clear hBA
      by_cases hPE : A > E
      · skip
        have hAp : hasB P Q (A - 1) = false := by
          rw [← Bool.not_eq_true, hasB_iff]
          omega
        have c0_hW := hW5.cell 0
        have c1_hW := hW5.cell 1
        simp at c0_hW c1_hW
        go_wp2_with fail
        refine (Has_any _ _ _ _).mono ?_
        rintro e w6 ⟨rfl, hb6⟩
        rw [hAin]
        have hB6 := hB5.trans (hb6.mono hB5.size)
        have hW6 := hW5.keep hb6 hW5.inside
        clear hb6 hB5 hW5 c0_hW c1_hW
        have c0_hW := hW6.cell 0
        have c1_hW := hW6.cell 1
        simp at c0_hW c1_hW
        go_wp2_with fail
        refine (Has_any _ _ _ _).mono ?_
        rintro e w7 ⟨rfl, hb7⟩
        rw [hAp]
        have hB7 := hB6.trans (hb7.mono hB6.size)
        have hW7 := hW6.keep hb7 hW6.inside
        clear hb7 hB6 hW6 c0_hW c1_hW
        have hbs := Lib.hid (shiftB_iff P Q d)
        cases hs : shiftB P Q d
        · have t5 : ¬ P + d ≥ 0 := fun h => by have := (hbs.out).2 ⟨⟨hP0, hPQ, by omega⟩, by omega, by omega⟩; rw [hs] at this; cases this
          obtain ⟨sv, sv2⟩ := shift_0 hs
          clear hbs
          have c0_hW := hW7.cell 0
          have c1_hW := hW7.cell 1
          simp at c0_hW c1_hW
          go_wp2_with fail
          refine (Shift_any _ _ _ _).mono ?_
          rintro e w8 ⟨rfl, hb8⟩
          rw [hs, sv, sv2]
          have hB8 := hB7.trans (hb8.mono hB7.size)
          have hW8 := hW7.keep hb8 hW7.inside
          clear hb8 hB7 hW7 c0_hW c1_hW
          have hW9 := hW8.alloc (.cells #[.int .i64 0, .int .i64 0] 23)
          have hB9 := hB8.alloc hB8.size (.cells #[.int .i64 0, .int .i64 0] 23)
          have c0 := hW9.cell 0
          simp at c0
          clear hs sv sv2
          go_wp2
          go_ret
          exact ⟨rfl, hB9⟩
        · have t5 : P + d ≥ 0 := by have := (hbs.out).1 hs; omega
          obtain ⟨sv, sv2⟩ := shift_1 hs
          clear hbs
          have c0_hW := hW7.cell 0
          have c1_hW := hW7.cell 1
          simp at c0_hW c1_hW
          go_wp2_with fail
          refine (Shift_any _ _ _ _).mono ?_
          rintro e w8 ⟨rfl, hb8⟩
          rw [hs, sv, sv2]
          have hB8 := hB7.trans (hb8.mono hB7.size)
          have hW8 := hW7.keep hb8 hW7.inside
          clear hb8 hB7 hW7 c0_hW c1_hW
          clear hs sv sv2
          have hW9 := hW8.alloc (.cells #[.int .i64 (P + d), .int .i64 (Q + d)] 23)
          have hS9 := At.new w8 23 #[.int .i64 (P + d), .int .i64 (Q + d)]
          have hB9 := hB8.alloc hB8.size (.cells #[.int .i64 (P + d), .int .i64 (Q + d)] 23)
          have c0 := hW8.cell 0
          simp at c0
          have hback : shiftB (P + d) (Q + d) (-d) = true := (shiftB_iff _ _ _).2 ⟨⟨by omega, by omega, by omega⟩, by omega, by omega⟩
          obtain ⟨sv, sv2⟩ := shift_1 hback
          rw [show P + d + -d = P by omega] at sv
          rw [show Q + d + -d = Q by omega] at sv2
          have c0_hW := hW9.cell 0
          have c1_hW := hW9.cell 1
          simp at c0_hW c1_hW
          have c0_hS := hS9.cell 0
          have c1_hS := hS9.cell 1
          simp at c0_hS c1_hS
          go_wp2_with fail
          generalize (w8.alloc (.cells #[.int .i64 (P + d), .int .i64 (Q + d)] 23)) = w9 at *
          generalize w8.heap.size = gS at *
          clear c0 hW8 hB8
          refine (Shift_any _ _ _ _).mono ?_
          rintro e w10 ⟨rfl, hb10⟩
          rw [hback, sv, sv2]
          have hB10 := hB9.trans (hb10.mono hB9.size)
          have hW10 := hW9.keep hb10 hW9.inside
          have hS10 := hS9.keep hb10 hS9.inside
          clear hb10 hB9 hW9 hS9 c0_hW c1_hW c0_hS c1_hS hback sv sv2
          have hW11 := hW10.alloc (.cells #[.int .i64 P, .int .i64 Q] 23)
          have hS11 := hS10.alloc (.cells #[.int .i64 P, .int .i64 Q] 23)
          have hK11 := At.new w10 23 #[.int .i64 P, .int .i64 Q]
          have hB11 := hB10.alloc hB10.size (.cells #[.int .i64 P, .int .i64 Q] 23)
          have hw : waitB (P + d) (Q + d) (E + d) = true := (waitB_iff _ _ _).2 ⟨⟨by omega, by omega, by omega⟩, by omega⟩
          have hv : waitV (P + d) (Q + d) (E + d) = A + d := by
            unfold waitV
            rw [hw, orNil_t]
            omega
          have c0_hS := hS11.cell 0
          have c1_hS := hS11.cell 1
          simp at c0_hS c1_hS
          go_wp2_with fail
          generalize (w10.alloc (.cells #[.int .i64 P, .int .i64 Q] 23)) = w11 at *
          generalize w10.heap.size = gK at *
          clear hW10 hB10 hS10 c0_hS c1_hS hS11
          refine (Wait_any _ _ _ _).mono ?_
          rintro e w12 ⟨rfl, hb12⟩
          rw [hw, hv]
          have hB12 := hB11.trans (hb12.mono hB11.size)
          have hW12 := hW11.keep hb12 hW11.inside
          have hK12 := hK11.keep hb12 hK11.inside
          clear hb12 hB11 hW11 hK11 hw hv
          have c0_hW := hW12.cell 0
          have c1_hW := hW12.cell 1
          simp at c0_hW c1_hW
          have c0_hK := hK12.cell 0
          have c1_hK := hK12.cell 1
          simp at c0_hK c1_hK
          go_wp2
          go_ret
          exact ⟨rfl, hB12⟩
      · skip
        have c0_hW := hW5.cell 0
        have c1_hW := hW5.cell 1
        simp at c0_hW c1_hW
        go_wp2_with fail
        refine (Has_any _ _ _ _).mono ?_
        rintro e w6 ⟨rfl, hb6⟩
        rw [hAin]
        have hB6 := hB5.trans (hb6.mono hB5.size)
        have hW6 := hW5.keep hb6 hW5.inside
        clear hb6 hB5 hW5 c0_hW c1_hW
        have hbs := Lib.hid (shiftB_iff P Q d)
        cases hs : shiftB P Q d
        · have t5 : ¬ P + d ≥ 0 := fun h => by have := (hbs.out).2 ⟨⟨hP0, hPQ, by omega⟩, by omega, by omega⟩; rw [hs] at this; cases this
          obtain ⟨sv, sv2⟩ := shift_0 hs
          clear hbs
          have c0_hW := hW6.cell 0
          have c1_hW := hW6.cell 1
          simp at c0_hW c1_hW
          go_wp2_with fail
          refine (Shift_any _ _ _ _).mono ?_
          rintro e w7 ⟨rfl, hb7⟩
          rw [hs, sv, sv2]
          have hB7 := hB6.trans (hb7.mono hB6.size)
          have hW7 := hW6.keep hb7 hW6.inside
          clear hb7 hB6 hW6 c0_hW c1_hW
          have hW8 := hW7.alloc (.cells #[.int .i64 0, .int .i64 0] 23)
          have hB8 := hB7.alloc hB7.size (.cells #[.int .i64 0, .int .i64 0] 23)
          have c0 := hW8.cell 0
          simp at c0
          clear hs sv sv2
          go_wp2
          go_ret
          exact ⟨rfl, hB8⟩
        · have t5 : P + d ≥ 0 := by have := (hbs.out).1 hs; omega
          obtain ⟨sv, sv2⟩ := shift_1 hs
          clear hbs
          have c0_hW := hW6.cell 0
          have c1_hW := hW6.cell 1
          simp at c0_hW c1_hW
          go_wp2_with fail
          refine (Shift_any _ _ _ _).mono ?_
          rintro e w7 ⟨rfl, hb7⟩
          rw [hs, sv, sv2]
          have hB7 := hB6.trans (hb7.mono hB6.size)
          have hW7 := hW6.keep hb7 hW6.inside
          clear hb7 hB6 hW6 c0_hW c1_hW
          clear hs sv sv2
          have hW8 := hW7.alloc (.cells #[.int .i64 (P + d), .int .i64 (Q + d)] 23)
          have hS8 := At.new w7 23 #[.int .i64 (P + d), .int .i64 (Q + d)]
          have hB8 := hB7.alloc hB7.size (.cells #[.int .i64 (P + d), .int .i64 (Q + d)] 23)
          have c0 := hW7.cell 0
          simp at c0
          have hback : shiftB (P + d) (Q + d) (-d) = true := (shiftB_iff _ _ _).2 ⟨⟨by omega, by omega, by omega⟩, by omega, by omega⟩
          obtain ⟨sv, sv2⟩ := shift_1 hback
          rw [show P + d + -d = P by omega] at sv
          rw [show Q + d + -d = Q by omega] at sv2
          have c0_hW := hW8.cell 0
          have c1_hW := hW8.cell 1
          simp at c0_hW c1_hW
          have c0_hS := hS8.cell 0
          have c1_hS := hS8.cell 1
          simp at c0_hS c1_hS
          go_wp2_with fail
          generalize (w7.alloc (.cells #[.int .i64 (P + d), .int .i64 (Q + d)] 23)) = w8 at *
          generalize w7.heap.size = gS at *
          clear c0 hW7 hB7
          refine (Shift_any _ _ _ _).mono ?_
          rintro e w9 ⟨rfl, hb9⟩
          rw [hback, sv, sv2]
          have hB9 := hB8.trans (hb9.mono hB8.size)
          have hW9 := hW8.keep hb9 hW8.inside
          have hS9 := hS8.keep hb9 hS8.inside
          clear hb9 hB8 hW8 hS8 c0_hW c1_hW c0_hS c1_hS hback sv sv2
          have hW10 := hW9.alloc (.cells #[.int .i64 P, .int .i64 Q] 23)
          have hS10 := hS9.alloc (.cells #[.int .i64 P, .int .i64 Q] 23)
          have hK10 := At.new w9 23 #[.int .i64 P, .int .i64 Q]
          have hB10 := hB9.alloc hB9.size (.cells #[.int .i64 P, .int .i64 Q] 23)
          have hw : waitB (P + d) (Q + d) (E + d) = true := (waitB_iff _ _ _).2 ⟨⟨by omega, by omega, by omega⟩, by omega⟩
          have hv : waitV (P + d) (Q + d) (E + d) = A + d := by
            unfold waitV
            rw [hw, orNil_t]
            omega
          have c0_hS := hS10.cell 0
          have c1_hS := hS10.cell 1
          simp at c0_hS c1_hS
          go_wp2_with fail
          generalize (w9.alloc (.cells #[.int .i64 P, .int .i64 Q] 23)) = w10 at *
          generalize w9.heap.size = gK at *
          clear hW9 hB9 hS9 c0_hS c1_hS hS10
          refine (Wait_any _ _ _ _).mono ?_
          rintro e w11 ⟨rfl, hb11⟩
          rw [hw, hv]
          have hB11 := hB10.trans (hb11.mono hB10.size)
          have hW11 := hW10.keep hb11 hW10.inside
          have hK11 := hK10.keep hb11 hK10.inside
          clear hb11 hB10 hW10 hK10 hw hv
          have c0_hW := hW11.cell 0
          have c1_hW := hW11.cell 1
          simp at c0_hW c1_hW
          have c0_hK := hK11.cell 0
          have c1_hK := hK11.cell 1
          simp at c0_hK c1_hK
          go_wp2
          go_ret
          exact ⟨rfl, hB11⟩
    · have n2 := hBA rfl
      clear hBA
      by_cases hPE : A > E
      · skip
        have hAp : hasB P Q (A - 1) = false := by
          rw [← Bool.not_eq_true, hasB_iff]
          omega
        have c0_hW := hW5.cell 0
        have c1_hW := hW5.cell 1
        simp at c0_hW c1_hW
        go_wp2_with fail
        refine (Has_any _ _ _ _).mono ?_
        rintro e w6 ⟨rfl, hb6⟩
        rw [hAin]
        have hB6 := hB5.trans (hb6.mono hB5.size)
        have hW6 := hW5.keep hb6 hW5.inside
        clear hb6 hB5 hW5 c0_hW c1_hW
        have c0_hW := hW6.cell 0
        have c1_hW := hW6.cell 1
        simp at c0_hW c1_hW
        go_wp2_with fail
        refine (Has_any _ _ _ _).mono ?_
        rintro e w7 ⟨rfl, hb7⟩
        rw [hAp]
        have hB7 := hB6.trans (hb7.mono hB6.size)
        have hW7 := hW6.keep hb7 hW6.inside
        clear hb7 hB6 hW6 c0_hW c1_hW
        have hbs := Lib.hid (shiftB_iff P Q d)
        cases hs : shiftB P Q d
        · have t5 : ¬ P + d ≥ 0 := fun h => by have := (hbs.out).2 ⟨⟨hP0, hPQ, by omega⟩, by omega, by omega⟩; rw [hs] at this; cases this
          obtain ⟨sv, sv2⟩ := shift_0 hs
          clear hbs
          have c0_hW := hW7.cell 0
          have c1_hW := hW7.cell 1
          simp at c0_hW c1_hW
          go_wp2_with fail
          refine (Shift_any _ _ _ _).mono ?_
          rintro e w8 ⟨rfl, hb8⟩
          rw [hs, sv, sv2]
          have hB8 := hB7.trans (hb8.mono hB7.size)
          have hW8 := hW7.keep hb8 hW7.inside
          clear hb8 hB7 hW7 c0_hW c1_hW
          have hW9 := hW8.alloc (.cells #[.int .i64 0, .int .i64 0] 23)
          have hB9 := hB8.alloc hB8.size (.cells #[.int .i64 0, .int .i64 0] 23)
          have c0 := hW9.cell 0
          simp at c0
          clear hs sv sv2
          go_wp2
          go_ret
          exact ⟨rfl, hB9⟩
        · have t5 : P + d ≥ 0 := by have := (hbs.out).1 hs; omega
          obtain ⟨sv, sv2⟩ := shift_1 hs
          clear hbs
          have c0_hW := hW7.cell 0
          have c1_hW := hW7.cell 1
          simp at c0_hW c1_hW
          go_wp2_with fail
          refine (Shift_any _ _ _ _).mono ?_
          rintro e w8 ⟨rfl, hb8⟩
          rw [hs, sv, sv2]
          have hB8 := hB7.trans (hb8.mono hB7.size)
          have hW8 := hW7.keep hb8 hW7.inside
          clear hb8 hB7 hW7 c0_hW c1_hW
          clear hs sv sv2
          have hW9 := hW8.alloc (.cells #[.int .i64 (P + d), .int .i64 (Q + d)] 23)
          have hS9 := At.new w8 23 #[.int .i64 (P + d), .int .i64 (Q + d)]
          have hB9 := hB8.alloc hB8.size (.cells #[.int .i64 (P + d), .int .i64 (Q + d)] 23)
          have c0 := hW8.cell 0
          simp at c0
          have hback : shiftB (P + d) (Q + d) (-d) = true := (shiftB_iff _ _ _).2 ⟨⟨by omega, by omega, by omega⟩, by omega, by omega⟩
          obtain ⟨sv, sv2⟩ := shift_1 hback
          rw [show P + d + -d = P by omega] at sv
          rw [show Q + d + -d = Q by omega] at sv2
          have c0_hW := hW9.cell 0
          have c1_hW := hW9.cell 1
          simp at c0_hW c1_hW
          have c0_hS := hS9.cell 0
          have c1_hS := hS9.cell 1
          simp at c0_hS c1_hS
          go_wp2_with fail
          generalize (w8.alloc (.cells #[.int .i64 (P + d), .int .i64 (Q + d)] 23)) = w9 at *
          generalize w8.heap.size = gS at *
          clear c0 hW8 hB8
          refine (Shift_any _ _ _ _).mono ?_
          rintro e w10 ⟨rfl, hb10⟩
          rw [hback, sv, sv2]
          have hB10 := hB9.trans (hb10.mono hB9.size)
          have hW10 := hW9.keep hb10 hW9.inside
          have hS10 := hS9.keep hb10 hS9.inside
          clear hb10 hB9 hW9 hS9 c0_hW c1_hW c0_hS c1_hS hback sv sv2
          have hW11 := hW10.alloc (.cells #[.int .i64 P, .int .i64 Q] 23)
          have hS11 := hS10.alloc (.cells #[.int .i64 P, .int .i64 Q] 23)
          have hK11 := At.new w10 23 #[.int .i64 P, .int .i64 Q]
          have hB11 := hB10.alloc hB10.size (.cells #[.int .i64 P, .int .i64 Q] 23)
          have hw : waitB (P + d) (Q + d) (E + d) = true := (waitB_iff _ _ _).2 ⟨⟨by omega, by omega, by omega⟩, by omega⟩
          have hv : waitV (P + d) (Q + d) (E + d) = A + d := by
            unfold waitV
            rw [hw, orNil_t]
            omega
          have c0_hS := hS11.cell 0
          have c1_hS := hS11.cell 1
          simp at c0_hS c1_hS
          go_wp2_with fail
          generalize (w10.alloc (.cells #[.int .i64 P, .int .i64 Q] 23)) = w11 at *
          generalize w10.heap.size = gK at *
          clear hW10 hB10 hS10 c0_hS c1_hS hS11
          refine (Wait_any _ _ _ _).mono ?_
          rintro e w12 ⟨rfl, hb12⟩
          rw [hw, hv]
          have hB12 := hB11.trans (hb12.mono hB11.size)
          have hW12 := hW11.keep hb12 hW11.inside
          have hK12 := hK11.keep hb12 hK11.inside
          clear hb12 hB11 hW11 hK11 hw hv
          have c0_hW := hW12.cell 0
          have c1_hW := hW12.cell 1
          simp at c0_hW c1_hW
          have c0_hK := hK12.cell 0
          have c1_hK := hK12.cell 1
          simp at c0_hK c1_hK
          go_wp2
          go_ret
          exact ⟨rfl, hB12⟩
      · skip
        have c0_hW := hW5.cell 0
        have c1_hW := hW5.cell 1
        simp at c0_hW c1_hW
        go_wp2_with fail
        refine (Has_any _ _ _ _).mono ?_
        rintro e w6 ⟨rfl, hb6⟩
        rw [hAin]
        have hB6 := hB5.trans (hb6.mono hB5.size)
        have hW6 := hW5.keep hb6 hW5.inside
        clear hb6 hB5 hW5 c0_hW c1_hW
        have hbs := Lib.hid (shiftB_iff P Q d)
        cases hs : shiftB P Q d
        · have t5 : ¬ P + d ≥ 0 := fun h => by have := (hbs.out).2 ⟨⟨hP0, hPQ, by omega⟩, by omega, by omega⟩; rw [hs] at this; cases this
          obtain ⟨sv, sv2⟩ := shift_0 hs
          clear hbs
          have c0_hW := hW6.cell 0
          have c1_hW := hW6.cell 1
          simp at c0_hW c1_hW
          go_wp2_with fail
          refine (Shift_any _ _ _ _).mono ?_
          rintro e w7 ⟨rfl, hb7⟩
          rw [hs, sv, sv2]
          have hB7 := hB6.trans (hb7.mono hB6.size)
          have hW7 := hW6.keep hb7 hW6.inside
          clear hb7 hB6 hW6 c0_hW c1_hW
          have hW8 := hW7.alloc (.cells #[.int .i64 0, .int .i64 0] 23)
          have hB8 := hB7.alloc hB7.size (.cells #[.int .i64 0, .int .i64 0] 23)
          have c0 := hW8.cell 0
          simp at c0
          clear hs sv sv2
          go_wp2
          go_ret
          exact ⟨rfl, hB8⟩
        · have t5 : P + d ≥ 0 := by have := (hbs.out).1 hs; omega
          obtain ⟨sv, sv2⟩ := shift_1 hs
          clear hbs
          have c0_hW := hW6.cell 0
          have c1_hW := hW6.cell 1
          simp at c0_hW c1_hW
          go_wp2_with fail
          refine (Shift_any _ _ _ _).mono ?_
          rintro e w7 ⟨rfl, hb7⟩
          rw [hs, sv, sv2]
          have hB7 := hB6.trans (hb7.mono hB6.size)
          have hW7 := hW6.keep hb7 hW6.inside
          clear hb7 hB6 hW6 c0_hW c1_hW
          clear hs sv sv2
          have hW8 := hW7.alloc (.cells #[.int .i64 (P + d), .int .i64 (Q + d)] 23)
          have hS8 := At.new w7 23 #[.int .i64 (P + d), .int .i64 (Q + d)]
          have hB8 := hB7.alloc hB7.size (.cells #[.int .i64 (P + d), .int .i64 (Q + d)] 23)
          have c0 := hW7.cell 0
          simp at c0
          have hback : shiftB (P + d) (Q + d) (-d) = true := (shiftB_iff _ _ _).2 ⟨⟨by omega, by omega, by omega⟩, by omega, by omega⟩
          obtain ⟨sv, sv2⟩ := shift_1 hback
          rw [show P + d + -d = P by omega] at sv
          rw [show Q + d + -d = Q by omega] at sv2
          have c0_hW := hW8.cell 0
          have c1_hW := hW8.cell 1
          simp at c0_hW c1_hW
          have c0_hS := hS8.cell 0
          have c1_hS := hS8.cell 1
          simp at c0_hS c1_hS
          go_wp2_with fail
          generalize (w7.alloc (.cells #[.int .i64 (P + d), .int .i64 (Q + d)] 23)) = w8 at *
          generalize w7.heap.size = gS at *
          clear c0 hW7 hB7
          refine (Shift_any _ _ _ _).mono ?_
          rintro e w9 ⟨rfl, hb9⟩
          rw [hback, sv, sv2]
          have hB9 := hB8.trans (hb9.mono hB8.size)
          have hW9 := hW8.keep hb9 hW8.inside
          have hS9 := hS8.keep hb9 hS8.inside
          clear hb9 hB8 hW8 hS8 c0_hW c1_hW c0_hS c1_hS hback sv sv2
          have hW10 := hW9.alloc (.cells #[.int .i64 P, .int .i64 Q] 23)
          have hS10 := hS9.alloc (.cells #[.int .i64 P, .int .i64 Q] 23)
          have hK10 := At.new w9 23 #[.int .i64 P, .int .i64 Q]
          have hB10 := hB9.alloc hB9.size (.cells #[.int .i64 P, .int .i64 Q] 23)
          have hw : waitB (P + d) (Q + d) (E + d) = true := (waitB_iff _ _ _).2 ⟨⟨by omega, by omega, by omega⟩, by omega⟩
          have hv : waitV (P + d) (Q + d) (E + d) = A + d := by
            unfold waitV
            rw [hw, orNil_t]
            omega
          have c0_hS := hS10.cell 0
          have c1_hS := hS10.cell 1
          simp at c0_hS c1_hS
          go_wp2_with fail
          generalize (w9.alloc (.cells #[.int .i64 P, .int .i64 Q] 23)) = w10 at *
          generalize w9.heap.size = gK at *
          clear hW9 hB9 hS9 c0_hS c1_hS hS10
          refine (Wait_any _ _ _ _).mono ?_
          rintro e w11 ⟨rfl, hb11⟩
          rw [hw, hv]
          have hB11 := hB10.trans (hb11.mono hB10.size)
          have hW11 := hW10.keep hb11 hW10.inside
          have hK11 := hK10.keep hb11 hK10.inside
          clear hb11 hB10 hW10 hK10 hw hv
          have c0_hW := hW11.cell 0
          have c1_hW := hW11.cell 1
          simp at c0_hW c1_hW
          have c0_hK := hK11.cell 0
          have c1_hK := hK11.cell 1
          simp at c0_hK c1_hK
          go_wp2
          go_ret
          exact ⟨rfl, hB11⟩
  · have e1 : waitB P Q E = false := by
      rw [← Bool.not_eq_true, waitB_iff]
      omega
    have e2 : waitV P Q E = 0 := by rw [waitV, e1, orNil_f]
    have e3 : waitB P Q L = false := by
      rw [← Bool.not_eq_true, waitB_iff]
      omega
    have e4 : waitV P Q L = 0 := by rw [waitV, e3, orNil_f]
    rw [e1, e2, e3, e4]
    clear e1 e2 e3 e4
    have hbs := Lib.hid (shiftB_iff P Q d)
    cases hs : shiftB P Q d
    · have t5 : ¬ P + d ≥ 0 := fun h => by have := (hbs.out).2 ⟨⟨hP0, hPQ, by omega⟩, by omega, by omega⟩; rw [hs] at this; cases this
      obtain ⟨sv, sv2⟩ := shift_0 hs
      clear hbs
      have c0_hW := hW5.cell 0
      have c1_hW := hW5.cell 1
      simp at c0_hW c1_hW
      go_wp2_with fail
      refine (Shift_any _ _ _ _).mono ?_
      rintro e w6 ⟨rfl, hb6⟩
      rw [hs, sv, sv2]
      have hB6 := hB5.trans (hb6.mono hB5.size)
      have hW6 := hW5.keep hb6 hW5.inside
      clear hb6 hB5 hW5 c0_hW c1_hW
      have hW7 := hW6.alloc (.cells #[.int .i64 0, .int .i64 0] 23)
      have hB7 := hB6.alloc hB6.size (.cells #[.int .i64 0, .int .i64 0] 23)
      have c0 := hW7.cell 0
      simp at c0
      clear hs sv sv2
      go_wp2
      go_ret
      exact ⟨rfl, hB7⟩
    · have t5 : P + d ≥ 0 := by have := (hbs.out).1 hs; omega
      obtain ⟨sv, sv2⟩ := shift_1 hs
      clear hbs
      have c0_hW := hW5.cell 0
      have c1_hW := hW5.cell 1
      simp at c0_hW c1_hW
      go_wp2_with fail
      refine (Shift_any _ _ _ _).mono ?_
      rintro e w6 ⟨rfl, hb6⟩
      rw [hs, sv, sv2]
      have hB6 := hB5.trans (hb6.mono hB5.size)
      have hW6 := hW5.keep hb6 hW5.inside
      clear hb6 hB5 hW5 c0_hW c1_hW
      clear hs sv sv2
      have hW7 := hW6.alloc (.cells #[.int .i64 (P + d), .int .i64 (Q + d)] 23)
      have hS7 := At.new w6 23 #[.int .i64 (P + d), .int .i64 (Q + d)]
      have hB7 := hB6.alloc hB6.size (.cells #[.int .i64 (P + d), .int .i64 (Q + d)] 23)
      have c0 := hW6.cell 0
      simp at c0
      have hback : shiftB (P + d) (Q + d) (-d) = true := (shiftB_iff _ _ _).2 ⟨⟨by omega, by omega, by omega⟩, by omega, by omega⟩
      obtain ⟨sv, sv2⟩ := shift_1 hback
      rw [show P + d + -d = P by omega] at sv
      rw [show Q + d + -d = Q by omega] at sv2
      have c0_hW := hW7.cell 0
      have c1_hW := hW7.cell 1
      simp at c0_hW c1_hW
      have c0_hS := hS7.cell 0
      have c1_hS := hS7.cell 1
      simp at c0_hS c1_hS
      go_wp2_with fail
      generalize (w6.alloc (.cells #[.int .i64 (P + d), .int .i64 (Q + d)] 23)) = w7 at *
      generalize w6.heap.size = gS at *
      clear c0 hW6 hB6
      refine (Shift_any _ _ _ _).mono ?_
      rintro e w8 ⟨rfl, hb8⟩
      rw [hback, sv, sv2]
      have hB8 := hB7.trans (hb8.mono hB7.size)
      have hW8 := hW7.keep hb8 hW7.inside
      have hS8 := hS7.keep hb8 hS7.inside
      clear hb8 hB7 hW7 hS7 c0_hW c1_hW c0_hS c1_hS hback sv sv2
      have hW9 := hW8.alloc (.cells #[.int .i64 P, .int .i64 Q] 23)
      have hS9 := hS8.alloc (.cells #[.int .i64 P, .int .i64 Q] 23)
      have hK9 := At.new w8 23 #[.int .i64 P, .int .i64 Q]
      have hB9 := hB8.alloc hB8.size (.cells #[.int .i64 P, .int .i64 Q] 23)
      have hw : waitB (P + d) (Q + d) (E + d) = false := by
        rw [← Bool.not_eq_true, waitB_iff]
        omega
      have hv : waitV (P + d) (Q + d) (E + d) = 0 := by rw [waitV, hw, orNil_f]
      have c0_hS := hS9.cell 0
      have c1_hS := hS9.cell 1
      simp at c0_hS c1_hS
      go_wp2_with fail
      generalize (w8.alloc (.cells #[.int .i64 P, .int .i64 Q] 23)) = w9 at *
      generalize w8.heap.size = gK at *
      clear hW8 hB8 hS8 c0_hS c1_hS hS9
      refine (Wait_any _ _ _ _).mono ?_
      rintro e w10 ⟨rfl, hb10⟩
      rw [hw, hv]
      have hB10 := hB9.trans (hb10.mono hB9.size)
      have hW10 := hW9.keep hb10 hW9.inside
      have hK10 := hK9.keep hb10 hK9.inside
      clear hb10 hB9 hW9 hK9 hw hv
      have c0_hW := hW10.cell 0
      have c1_hW := hW10.cell 1
      simp at c0_hW c1_hW
      have c0_hK := hK10.cell 0
      have c1_hK := hK10.cell 1
      simp at c0_hK c1_hK
      go_wp2
      go_ret
      exact ⟨rfl, hB10⟩

set_option maxRecDepth 100000 in
theorem lifted (os : Os) (started : os.Started) (H : Type) (enc : TypeId × Value → H) :
    ReturnsInHanded {} Try.checked os 5 .any (Rows.windowWaitsSpec.pre6 enc Try.prog Try.f5 Rows.windowWaitsRow.domain false) (Rows.windowWaitsSpec.post enc Try.prog Try.f5 false true false false) := by
  refine returnsInHanded_of_change (C := Try.checked) own started (by kernel_rfl) Try.func5
    (ChangeSpec.witness6 (enc := enc) (C := Try.checked) false ⟨#[], #[.agg #[.int .u8 0, .int .u8 0], .agg #[.int .i8 0, .int .i8 0], .int .i8 0], []⟩ 8 (by kernel_rfl) (by kernel_rfl) (by kernel_rfl) (by kernel_rfl)) ?_
  intro W base args ds gs before hval0 hW hcnd _
  have hval : ∀ (j : Nat) t v, Try.f5.params[j]? = some t → args[j]? = some v → Value.okWide Try.prog W .any base t v := hval0
  have hW' := hW
  obtain ⟨p, q, hA0, hV, rfl, hfz, hnd⟩ := hW
  have hA : DataW.TrodAll enc Try.prog W 0 (fun _ => true) true Try.f5.params.toList args.toList ds p := hA0
  rw [Try.params5] at hA hval
  obtain ⟨v0, vs0, d0, ds0, p0, q0, hargs, rfl, rfl, h0, r0⟩ := trodAll_cons hA
  obtain ⟨v1, vs1, d1, ds1, p1, q1, rfl, rfl, rfl, h1, r1⟩ := trodAll_cons r0
  obtain ⟨v2, vs2, d2, ds2, p2, q2, rfl, rfl, rfl, h2, r2⟩ := trodAll_cons r1
  obtain ⟨rfl, rfl, rfl⟩ := trodAll_nil r2
  obtain rfl : args = #[v0, v1, v2] := by cases args; simp_all
  obtain ⟨rfl, rfl⟩ := trodVars_none hV
  obtain ⟨xs0, hl0, hv0, hxs0⟩ := Close.open_numbers Try.underlying40 Try.underlying5 (by kernel_rfl) (by kernel_rfl) (hval 0 40 v0 rfl rfl) h0
  obtain ⟨a, b, rfl⟩ : ∃ a b, xs0 = [a, b] := by
    match xs0, hl0 with
    | [a, b], _ => exact ⟨a, b, rfl⟩
  obtain rfl : v0 = .agg #[.int .u8 a, .int .u8 b] := by simpa using hv0
  have wa := u8_ends (hxs0 a (by simp))
  have wb := u8_ends (hxs0 b (by simp))
  obtain ⟨xs1, hl1, hv1, hxs1⟩ := Close.open_numbers Try.underlying42 Try.underlying41 (by kernel_rfl) (by kernel_rfl) (hval 1 42 v1 rfl rfl) h1
  obtain ⟨c, d, rfl⟩ : ∃ a b, xs1 = [a, b] := by
    match xs1, hl1 with
    | [a, b], _ => exact ⟨a, b, rfl⟩
  obtain rfl : v1 = .agg #[.int .i8 c, .int .i8 d] := by simpa using hv1
  have wc := i8_ends (hxs1 c (by simp))
  have wd := i8_ends (hxs1 d (by simp))
  obtain ⟨n, rfl, rfl, rfl, wn⟩ := open_int Try.underlying41 (hval 2 41 v2 rfl rfl) h2
  exact (walk a b c d n wa wb wc wd (i8_ends wn) W).mono fun e W' ⟨he, hb⟩ => ⟨_, he, Close.law_post laidOut (by kernel_rfl) rfl (by kernel_rfl) Try.underlying4 hW' rfl hb⟩

theorem over : Rows.windowWaitsRow.holds Try.pinned (OpenSpec.ofChange Rows.windowWaitsSpec) :=
  OpenClaim.holds_of_wide 5 Try.f5 rfl rfl rfl rfl rfl rfl rfl ⟨rfl, rfl, rfl, rfl, rfl⟩ rfl rfl rfl rfl rfl (by kernel_rfl) Try.func5 (by kernel_rfl)
    (of_decide_eq_true (by kernel_rfl)) (by unfold Func.isWrapper; first | (rw [if_pos (by decide +kernel)]; kernel_rfl) | (rw [if_neg (by decide +kernel)]; exact ⟨rfl, rfl⟩))
    (fun os started H enc _ => lifted os started H enc)

theorem proved : Rows.WindowWaitsSaid := over
#print axioms proved

end Go.Proofs.Ytljpcicahhfkpaa.windowWaits
