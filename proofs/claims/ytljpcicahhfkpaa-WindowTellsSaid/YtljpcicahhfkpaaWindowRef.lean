/-
  Contracts of the document's answers for window.
-/
import Derived.Test.YtljpcicahhfkpaaWindowFuncs2
namespace Go.Proofs.Ytljpcicahhfkpaa.Window
open Go.RowKit Go.Sort
open Go.Proofs.Ytljpcicahhfkpaa.Mem Go.Proofs.Ytljpcicahhfkpaa.Tail
set_option linter.unusedVariables false

theorem hasB_f {e l t : Int} (h : okB e l = false) : hasB e l t = false := by simp [hasB, h]
theorem hasB_t1 {e l t : Int} (h : okB e l = true) (h1 : ¬ e ≤ t) : hasB e l t = false := by simp [hasB, h, h1]
theorem hasB_t2 {e l t : Int} (h : okB e l = true) (h1 : e ≤ t) : hasB e l t = decide (t ≤ l) := by simp [hasB, h, h1]

theorem refHas_any (e l t : Int) (w : World) :
    Calls Try.prog 16 #[.agg #[.int .i64 e, .int .i64 l], .int .i64 t] w fun r w' => r = .returned (.bool (hasB e l t)) ∧ Below w.heap.size w w' := by
  have hW0 : At (w.alloc (.cells #[.int .i64 e, .int .i64 l] 23)) w.heap.size 23 #[.int .i64 e, .int .i64 l] := At.new w _ _
  have hb0 : Below w.heap.size w (w.alloc (.cells #[.int .i64 e, .int .i64 l] 23)) := (Below.refl _ _).alloc (Nat.le_refl _) _
  obtain ⟨H, hH⟩ : ∃ H, hasB e l t = H := ⟨_, rfl⟩
  rw [hH]
  cases h1 : okB e l
  · obtain rfl : false = H := (hasB_f h1).symm.trans hH
    clear hH
    go_enter Try.func16, Try.ntmps16
    go_wp2_with fail
    refine (refMay_any _ _ _).mono ?_
    rintro r w1 ⟨rfl, hb1⟩
    rw [h1]
    have hE := hb0.trans (hb1.mono hb0.size)
    go_wp2
    go_ret
    exact ⟨rfl, hE⟩
  · by_cases h2 : e ≤ t
    · obtain rfl : decide (t ≤ l) = H := (hasB_t2 h1 h2).symm.trans hH
      clear hH
      go_enter Try.func16, Try.ntmps16
      go_wp2_with fail
      generalize (w.alloc (.cells #[.int .i64 e, .int .i64 l] 23)) = w0 at *
      refine (refMay_any _ _ _).mono ?_
      rintro r w1 ⟨rfl, hb1⟩
      rw [h1]
      have hE := hb0.trans (hb1.mono hb0.size)
      have hW1 := hW0.keep hb1 hW0.inside
      clear hb1 hb0 hW0
      have c0 := hW1.cell 0
      have c1 := hW1.cell 1
      simp at c0 c1
      go_wp2
      go_ret
      exact ⟨rfl, hE⟩
    · obtain rfl : false = H := (hasB_t1 h1 h2).symm.trans hH
      clear hH
      go_enter Try.func16, Try.ntmps16
      go_wp2_with fail
      generalize (w.alloc (.cells #[.int .i64 e, .int .i64 l] 23)) = w0 at *
      refine (refMay_any _ _ _).mono ?_
      rintro r w1 ⟨rfl, hb1⟩
      rw [h1]
      have hE := hb0.trans (hb1.mono hb0.size)
      have hW1 := hW0.keep hb1 hW0.inside
      clear hb1 hb0 hW0
      have c0 := hW1.cell 0
      have c1 := hW1.cell 1
      simp at c0 c1
      go_wp2
      go_ret
      exact ⟨rfl, hE⟩

theorem refWait_any (e l t : Int) (w : World) :
    Calls Try.prog 12 #[.agg #[.int .i64 e, .int .i64 l], .int .i64 t] w fun r w' => r = .returned (.tuple #[.int .i64 (waitV e l t), .bool (waitB e l t)]) ∧ Below w.heap.size w w' := by
  have hb0 : Below w.heap.size w (w.alloc (.cells #[.int .i64 e, .int .i64 l] 23)) := (Below.refl _ _).alloc (Nat.le_refl _) _
  cases h1 : hasB e l (max t e)
  · have hB : waitB e l t = false := h1
    have hV : waitV e l t = 0 := by rw [waitV, hB, orNil_f]
    rw [hB, hV]
    clear hB hV
    go_enter Try.func12, Try.ntmps12
    go_wp2_with fail
    refine (refHas_any _ _ _ _).mono ?_
    rintro r w1 ⟨rfl, hb1⟩
    rw [h1]
    have hE := hb0.trans (hb1.mono hb0.size)
    go_wp2
    refine bodyPost_ret (v := .tuple #[.int .i64 _, .bool _]) (by simp [results, Try.results12, go_sem]; exact ⟨rfl, rfl⟩) rfl ?_
    exact ⟨rfl, hE⟩
  · have hB : waitB e l t = true := h1
    have hV : waitV e l t = max t e := by rw [waitV, hB, orNil_t]
    rw [hB, hV]
    clear hB hV
    go_enter Try.func12, Try.ntmps12
    go_wp2_with fail
    refine (refHas_any _ _ _ _).mono ?_
    rintro r w1 ⟨rfl, hb1⟩
    rw [h1]
    have hE := hb0.trans (hb1.mono hb0.size)
    go_wp2
    refine bodyPost_ret (v := .tuple #[.int .i64 _, .bool _]) (by simp [results, Try.results12, go_sem]; exact ⟨rfl, rfl⟩) rfl ?_
    exact ⟨rfl, hE⟩

theorem meetB_f1 {a b c d : Int} (h : okB a b = false) : meetB a b c d = false := by simp [meetB, h]
theorem meetB_f2 {a b c d : Int} (h : okB c d = false) : meetB a b c d = false := by simp [meetB, h]
theorem meetB_f3 {a b c d : Int} (h : max a c > min b d) : meetB a b c d = false := by
  have : ¬ max a c ≤ min b d := by omega
  simp only [meetB, decide_eq_false this, Bool.and_false]
theorem meetB_t {a b c d : Int} (h1 : okB a b = true) (h2 : okB c d = true) (h : ¬ max a c > min b d) : meetB a b c d = true := by
  have : max a c ≤ min b d := by omega
  simp only [meetB, h1, h2, decide_eq_true this, Bool.and_true]
theorem meet_0 {a b c d : Int} (h : meetB a b c d = false) : meetE a b c d = 0 ∧ meetL a b c d = 0 := by
  unfold meetE meetL
  rw [h]
  exact ⟨rfl, rfl⟩
theorem meet_1 {a b c d : Int} (h : meetB a b c d = true) : meetE a b c d = max a c ∧ meetL a b c d = min b d := by
  unfold meetE meetL
  rw [h]
  exact ⟨rfl, rfl⟩

theorem refMeet_any (a b c d : Int) (w : World) :
    Calls Try.prog 8 #[.agg #[.int .i64 a, .int .i64 b], .agg #[.int .i64 c, .int .i64 d]] w fun r w' => r = .returned (.tuple #[.agg #[.int .i64 (meetE a b c d), .int .i64 (meetL a b c d)], .bool (meetB a b c d)]) ∧ Below w.heap.size w w' := by
  have hC0 : At ((((w.alloc (.cells #[.int .i64 a, .int .i64 b] 23)).alloc (.cells #[.int .i64 c, .int .i64 d] 23)).alloc (.cells #[.int .i64 0, .int .i64 0] 23)).alloc (.cells #[.int .i64 (max a c), .int .i64 (min b d)] 23)) (w.heap.size + 1) 23 #[.int .i64 c, .int .i64 d] := ((At.new_ _ _ _ (by simp)).alloc _).alloc _
  have hR0 : At ((((w.alloc (.cells #[.int .i64 a, .int .i64 b] 23)).alloc (.cells #[.int .i64 c, .int .i64 d] 23)).alloc (.cells #[.int .i64 0, .int .i64 0] 23)).alloc (.cells #[.int .i64 (max a c), .int .i64 (min b d)] 23)) (w.heap.size + 1 + 1) 23 #[.int .i64 0, .int .i64 0] := (At.new_ _ _ _ (by simp)).alloc _
  have hM0 : At ((((w.alloc (.cells #[.int .i64 a, .int .i64 b] 23)).alloc (.cells #[.int .i64 c, .int .i64 d] 23)).alloc (.cells #[.int .i64 0, .int .i64 0] 23)).alloc (.cells #[.int .i64 (max a c), .int .i64 (min b d)] 23)) (w.heap.size + 1 + 1 + 1) 23 #[.int .i64 (max a c), .int .i64 (min b d)] := At.new_ _ _ _ (by simp)
  have hb0 : Below w.heap.size w ((((w.alloc (.cells #[.int .i64 a, .int .i64 b] 23)).alloc (.cells #[.int .i64 c, .int .i64 d] 23)).alloc (.cells #[.int .i64 0, .int .i64 0] 23)).alloc (.cells #[.int .i64 (max a c), .int .i64 (min b d)] 23)) := by
    repeat (first | exact Below.refl _ _ | refine Below.alloc ?_ (by simp <;> omega) _)
  go_enter Try.func8, Try.ntmps8
  go_wp2_with fail
  generalize ((((w.alloc (.cells #[.int .i64 a, .int .i64 b] 23)).alloc (.cells #[.int .i64 c, .int .i64 d] 23)).alloc (.cells #[.int .i64 0, .int .i64 0] 23)).alloc (.cells #[.int .i64 (max a c), .int .i64 (min b d)] 23)) = w0 at *
  refine (refMay_any _ _ _).mono ?_
  rintro r w1 ⟨rfl, hb1⟩
  have hE := hb0.trans (hb1.mono hb0.size)
  have hC1 := hC0.keep hb1 hC0.inside
  have hR1 := hR0.keep hb1 hR0.inside
  have hM1 := hM0.keep hb1 hM0.inside
  clear hb1 hb0 hC0 hR0 hM0 w0
  cases h1 : okB a b
  · have hB := meetB_f1 (c := c) (d := d) h1
    obtain ⟨hV, hV2⟩ := meet_0 hB
    have hx := Lib.hid (And.intro hB (And.intro hV hV2))
    clear hB hV hV2
    have r0 := hR1.cell 0
    have r1 := hR1.cell 1
    simp at r0 r1
    have fr0 := hR1.free 0
    have fr1 := hR1.free 1
    go_wp2
    refine bodyPost_ret (res_wb rfl rfl rfl (b := .bool false) (x := .int .i64 0) (y := .int .i64 0) (by go_simp) (by go_simp)) rfl ?_
    exact ⟨ret_wb hx.out.2.1.symm hx.out.2.2.symm hx.out.1.symm, by repeat (first | exact hE | refine Below.setCell ?_ (by simp <;> omega) _)⟩
  · have c0 := hC1.cell 0
    have c1 := hC1.cell 1
    simp at c0 c1
    go_wp2_with fail
    refine (refMay_any _ _ _).mono ?_
    rintro r w2 ⟨rfl, hb2⟩
    have hE2 := hE.trans (hb2.mono hE.size)
    have hR2 := hR1.keep hb2 hR1.inside
    have hM2 := hM1.keep hb2 hM1.inside
    clear hb2 hE hC1 hR1 hM1 c0 c1
    have r0 := hR2.cell 0
    have r1 := hR2.cell 1
    have m0 := hM2.cell 0
    have m1 := hM2.cell 1
    simp at r0 r1 m0 m1
    have fr0 := hR2.free 0
    have fr1 := hR2.free 1
    cases h2 : okB c d
    · have hB := meetB_f2 (a := a) (b := b) h2
      obtain ⟨hV, hV2⟩ := meet_0 hB
      have hx := Lib.hid (And.intro hB (And.intro hV hV2))
      clear hB hV hV2
      go_wp2
      refine bodyPost_ret (res_wb rfl rfl rfl (b := .bool false) (x := .int .i64 0) (y := .int .i64 0) (by go_simp) (by go_simp)) rfl ?_
      exact ⟨ret_wb hx.out.2.1.symm hx.out.2.2.symm hx.out.1.symm, by repeat (first | exact hE2 | refine Below.setCell ?_ (by simp <;> omega) _)⟩
    · by_cases h3 : max a c > min b d
      · have hB := meetB_f3 h3
        obtain ⟨hV, hV2⟩ := meet_0 hB
        have hx := Lib.hid (And.intro hB (And.intro hV hV2))
        clear hB hV hV2
        have h3' : (max a c > min b d) = True := eq_true h3
        generalize max a c = X at *
        generalize min b d = Y at *
        go_wp2
        refine bodyPost_ret (res_wb rfl rfl rfl (b := .bool false) (x := .int .i64 0) (y := .int .i64 0) (by go_simp) (by go_simp)) rfl ?_
        exact ⟨ret_wb hx.out.2.1.symm hx.out.2.2.symm hx.out.1.symm, by repeat (first | exact hE2 | refine Below.setCell ?_ (by simp <;> omega) _)⟩
      · have hB := meetB_t h1 h2 h3
        obtain ⟨hV, hV2⟩ := meet_1 hB
        have hx := Lib.hid (And.intro hB (And.intro hV hV2))
        clear hB hV hV2
        generalize max a c = X at *
        generalize min b d = Y at *
        go_wp2
        refine bodyPost_ret (res_wb rfl rfl rfl (b := .bool true) (x := .int .i64 X) (y := .int .i64 Y) (by go_simp) (by go_simp)) rfl ?_
        exact ⟨ret_wb hx.out.2.1.symm hx.out.2.2.symm hx.out.1.symm, by repeat (first | exact hE2 | refine Below.setCell ?_ (by simp <;> omega) _)⟩

theorem shiftB_f1 {e l d : Int} (h : okB e l = false) : shiftB e l d = false := by simp [shiftB, h]
theorem shiftB_f2 {e l d : Int} (h : d > 1048576) : shiftB e l d = false := by
  rw [← Bool.not_eq_true, shiftB_iff]
  omega
theorem shiftB_f3 {e l d : Int} (h : d < -1048576) : shiftB e l d = false := by
  rw [← Bool.not_eq_true, shiftB_iff]
  omega
theorem shiftB_ok {e l d : Int} (h : okB e l = true) : shiftB e l d = okB (e + d) (l + d) := by
  rw [okB_iff] at h
  rw [Bool.eq_iff_iff, shiftB_iff, okB_iff]
  omega
theorem shift_0 {e l d : Int} (h : shiftB e l d = false) : shiftE e l d = 0 ∧ shiftL e l d = 0 := by
  unfold shiftE shiftL
  rw [h]
  exact ⟨rfl, rfl⟩
theorem shift_1 {e l d : Int} (h : shiftB e l d = true) : shiftE e l d = e + d ∧ shiftL e l d = l + d := by
  unfold shiftE shiftL
  rw [h]
  exact ⟨rfl, rfl⟩

theorem refShift_any (e l d : Int) (w : World) :
    Calls Try.prog 14 #[.agg #[.int .i64 e, .int .i64 l], .int .i64 d] w fun r w' => r = .returned (.tuple #[.agg #[.int .i64 (shiftE e l d), .int .i64 (shiftL e l d)], .bool (shiftB e l d)]) ∧ Below w.heap.size w w' := by
  have hC0 : At ((w.alloc (.cells #[.int .i64 e, .int .i64 l] 23)).alloc (.cells #[.int .i64 0, .int .i64 0] 23)) w.heap.size 23 #[.int .i64 e, .int .i64 l] := (At.new w _ _).alloc _
  have hR0 : At ((w.alloc (.cells #[.int .i64 e, .int .i64 l] 23)).alloc (.cells #[.int .i64 0, .int .i64 0] 23)) (w.heap.size + 1) 23 #[.int .i64 0, .int .i64 0] := At.new_ _ _ _ (by simp)
  have hb0 : Below w.heap.size w ((w.alloc (.cells #[.int .i64 e, .int .i64 l] 23)).alloc (.cells #[.int .i64 0, .int .i64 0] 23)) := by
    repeat (first | exact Below.refl _ _ | refine Below.alloc ?_ (by simp <;> omega) _)
  go_enter Try.func14, Try.ntmps14
  go_wp2_with fail
  generalize ((w.alloc (.cells #[.int .i64 e, .int .i64 l] 23)).alloc (.cells #[.int .i64 0, .int .i64 0] 23)) = w0 at *
  refine (refMay_any _ _ _).mono ?_
  rintro r w1 ⟨rfl, hb1⟩
  have hE := hb0.trans (hb1.mono hb0.size)
  have hC1 := hC0.keep hb1 hC0.inside
  have hR1 := hR0.keep hb1 hR0.inside
  clear hb1 hb0 hC0 hR0 w0
  have r0 := hR1.cell 0
  have r1 := hR1.cell 1
  have c0 := hC1.cell 0
  have c1 := hC1.cell 1
  simp at r0 r1 c0 c1
  have fr0 := hR1.free 0
  have fr1 := hR1.free 1
  cases h1 : okB e l
  · have hB := shiftB_f1 (d := d) h1
    obtain ⟨hV, hV2⟩ := shift_0 hB
    have hx := Lib.hid (And.intro hB (And.intro hV hV2))
    clear hB hV hV2
    go_wp2
    refine bodyPost_ret (res_wb rfl rfl rfl (b := .bool false) (x := .int .i64 0) (y := .int .i64 0) (by go_simp) (by go_simp)) rfl ?_
    exact ⟨ret_wb hx.out.2.1.symm hx.out.2.2.symm hx.out.1.symm, by repeat (first | exact hE | refine Below.setCell ?_ (by simp <;> omega) _)⟩
  · by_cases h2 : d > 1048576
    · have hB := shiftB_f2 (e := e) (l := l) h2
      obtain ⟨hV, hV2⟩ := shift_0 hB
      have hx := Lib.hid (And.intro hB (And.intro hV hV2))
      clear hB hV hV2
      go_wp2
      refine bodyPost_ret (res_wb rfl rfl rfl (b := .bool false) (x := .int .i64 0) (y := .int .i64 0) (by go_simp) (by go_simp)) rfl ?_
      exact ⟨ret_wb hx.out.2.1.symm hx.out.2.2.symm hx.out.1.symm, by repeat (first | exact hE | refine Below.setCell ?_ (by simp <;> omega) _)⟩
    · by_cases h3 : d < -1048576
      · have hB := shiftB_f3 (e := e) (l := l) h3
        obtain ⟨hV, hV2⟩ := shift_0 hB
        have hx := Lib.hid (And.intro hB (And.intro hV hV2))
        clear hB hV hV2
        go_wp2
        refine bodyPost_ret (res_wb rfl rfl rfl (b := .bool false) (x := .int .i64 0) (y := .int .i64 0) (by go_simp) (by go_simp)) rfl ?_
        exact ⟨ret_wb hx.out.2.1.symm hx.out.2.2.symm hx.out.1.symm, by repeat (first | exact hE | refine Below.setCell ?_ (by simp <;> omega) _)⟩
      · have hB := Lib.hid (shiftB_ok (d := d) h1)
        have hok := (okB_iff _ _).1 h1
        obtain ⟨hk1, hk2, hk3⟩ := hok
        have hM1 : At (w1.alloc (.cells #[.int .i64 (e + d), .int .i64 (l + d)] 23)) w1.heap.size 23 #[.int .i64 (e + d), .int .i64 (l + d)] := At.new _ _ _
        have hRM := hR1.alloc (.cells #[.int .i64 (e + d), .int .i64 (l + d)] 23)
        have hEM := hE.alloc hE.size (.cells #[.int .i64 (e + d), .int .i64 (l + d)] 23)
        go_wp2_with fail
        generalize (w1.alloc (.cells #[.int .i64 (e + d), .int .i64 (l + d)] 23)) = w2 at *
        refine (refMay_any _ _ _).mono ?_
        rintro r w3 ⟨rfl, hb3⟩
        have hE3 := hEM.trans (hb3.mono hEM.size)
        have hR3 := hRM.keep hb3 hRM.inside
        have hM3 := hM1.keep hb3 hM1.inside
        clear hb3 hE hR1 hC1 hM1 hRM hEM r0 r1 fr0 fr1 c0 c1
        generalize w1.heap.size = g at *
        have r0 := hR3.cell 0
        have r1 := hR3.cell 1
        have m0 := hM3.cell 0
        have m1 := hM3.cell 1
        simp at r0 r1 m0 m1
        have fr0 := hR3.free 0
        have fr1 := hR3.free 1
        cases h4 : okB (e + d) (l + d)
        · have hB2 := hB.out.trans h4
          obtain ⟨hV, hV2⟩ := shift_0 hB2
          have hx := Lib.hid (And.intro hB2 (And.intro hV hV2))
          clear hB2 hV hV2
          go_wp2
          refine bodyPost_ret (res_wb rfl rfl rfl (b := .bool false) (x := .int .i64 0) (y := .int .i64 0) (by go_simp) (by go_simp)) rfl ?_
          exact ⟨ret_wb hx.out.2.1.symm hx.out.2.2.symm hx.out.1.symm, by repeat (first | exact hE3 | refine Below.setCell ?_ (by simp <;> omega) _)⟩
        · have hB2 := hB.out.trans h4
          obtain ⟨hV, hV2⟩ := shift_1 hB2
          have hx := Lib.hid (And.intro hB2 (And.intro hV hV2))
          clear hB2 hV hV2
          go_wp2
          refine bodyPost_ret (res_wb rfl rfl rfl (b := .bool true) (x := .int .i64 (e + d)) (y := .int .i64 (l + d)) (by go_simp) (by go_simp)) rfl ?_
          exact ⟨ret_wb hx.out.2.1.symm hx.out.2.2.symm hx.out.1.symm, by repeat (first | exact hE3 | refine Below.setCell ?_ (by simp <;> omega) _)⟩

end Go.Proofs.Ytljpcicahhfkpaa.Window
