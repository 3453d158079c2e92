/-
  Contracts of the document's answers for window.
-/
import Derived.Test.YtphpkcndaifoiaaWindowFuncs2
namespace Go.Proofs.Ytphpkcndaifoiaa.Window
open Go.RowKit Go.Sort
open Go.Proofs.Ytphpkcndaifoiaa.Mem Go.Proofs.Ytphpkcndaifoiaa.Tail
set_option linter.unusedVariables false

theorem hasB_f {e l t : Int} (h : okB e l = false) : hasB e l t = false := by simp [hasB, h]
theorem hasB_t1 {e l t : Int} (h : okB e l = true) (h1 : ¬ e ≤ t) : hasB e l t = false := by simp [hasB, h, h1]
theorem hasB_t2 {e l t : Int} (h : okB e l = true) (h1 : e ≤ t) : hasB e l t = decide (t ≤ l) := by simp [hasB, h, h1]

theorem refHas_any (e l t : Int) (w : World) :
    Calls Try.prog 47 #[.agg #[.int .i64 e, .int .i64 l], .int .i64 t] w fun r w' => r = .returned (.bool (hasB e l t)) ∧ Below w.heap.size w w' := by
  have hW0 : At (w.alloc (.cells #[.int .i64 e, .int .i64 l] 47)) w.heap.size 47 #[.int .i64 e, .int .i64 l] := At.new w _ _
  have hb0 : Below w.heap.size w (w.alloc (.cells #[.int .i64 e, .int .i64 l] 47)) := (Below.refl _ _).alloc (Nat.le_refl _) _
  obtain ⟨H, hH⟩ : ∃ H, hasB e l t = H := ⟨_, rfl⟩
  rw [hH]
  cases h1 : okB e l
  · obtain rfl : false = H := (hasB_f h1).symm.trans hH
    clear hH
    go_enter Try.func47, Try.ntmps47
    go_wp2_with fail
    refine (refMay_any _ _ _).mono ?_
    rintro r w1 ⟨rfl, hb1⟩
    rw [h1]
    have hE := hb0.trans (hb1.mono hb0.size)
    go_wp2
    go_ret
    exact ⟨rfl, hE⟩
  · by_cases h2 : e ≤ t
    · obtain rfl : decide (t ≤ l) = H := (hasB_t2 h1 h2).symm.trans hH
      clear hH
      go_enter Try.func47, Try.ntmps47
      go_wp2_with fail
      generalize (w.alloc (.cells #[.int .i64 e, .int .i64 l] 47)) = w0 at *
      refine (refMay_any _ _ _).mono ?_
      rintro r w1 ⟨rfl, hb1⟩
      rw [h1]
      have hE := hb0.trans (hb1.mono hb0.size)
      have hW1 := hW0.keep hb1 hW0.inside
      clear hb1 hb0 hW0
      have c0 := hW1.cell 0
      have c1 := hW1.cell 1
      simp at c0 c1
      go_wp2
      go_ret
      exact ⟨rfl, hE⟩
    · obtain rfl : false = H := (hasB_t1 h1 h2).symm.trans hH
      clear hH
      go_enter Try.func47, Try.ntmps47
      go_wp2_with fail
      generalize (w.alloc (.cells #[.int .i64 e, .int .i64 l] 47)) = w0 at *
      refine (refMay_any _ _ _).mono ?_
      rintro r w1 ⟨rfl, hb1⟩
      rw [h1]
      have hE := hb0.trans (hb1.mono hb0.size)
      have hW1 := hW0.keep hb1 hW0.inside
      clear hb1 hb0 hW0
      have c0 := hW1.cell 0
      have c1 := hW1.cell 1
      simp at c0 c1
      go_wp2
      go_ret
      exact ⟨rfl, hE⟩

theorem refWait_any (e l t : Int) (w : World) :
    Calls Try.prog 29 #[.agg #[.int .i64 e, .int .i64 l], .int .i64 t] w fun r w' => r = .returned (.tuple #[.int .i64 (waitV e l t), .bool (waitB e l t)]) ∧ Below w.heap.size w w' := by
  have hb0 : Below w.heap.size w (w.alloc (.cells #[.int .i64 e, .int .i64 l] 47)) := (Below.refl _ _).alloc (Nat.le_refl _) _
  cases h1 : hasB e l (max t e)
  · have hB : waitB e l t = false := h1
    have hV : waitV e l t = 0 := by rw [waitV, hB, orNil_f]
    rw [hB, hV]
    clear hB hV
    go_enter Try.func29, Try.ntmps29
    go_wp2_with fail
    refine (refHas_any _ _ _ _).mono ?_
    rintro r w1 ⟨rfl, hb1⟩
    rw [h1]
    have hE := hb0.trans (hb1.mono hb0.size)
    go_wp2
    refine bodyPost_ret (v := .tuple #[.int .i64 _, .bool _]) (by simp [results, Try.results29, go_sem]; exact ⟨rfl, rfl⟩) rfl ?_
    exact ⟨rfl, hE⟩
  · have hB : waitB e l t = true := h1
    have hV : waitV e l t = max t e := by rw [waitV, hB, orNil_t]
    rw [hB, hV]
    clear hB hV
    go_enter Try.func29, Try.ntmps29
    go_wp2_with fail
    refine (refHas_any _ _ _ _).mono ?_
    rintro r w1 ⟨rfl, hb1⟩
    rw [h1]
    have hE := hb0.trans (hb1.mono hb0.size)
    go_wp2
    refine bodyPost_ret (v := .tuple #[.int .i64 _, .bool _]) (by simp [results, Try.results29, go_sem]; exact ⟨rfl, rfl⟩) rfl ?_
    exact ⟨rfl, hE⟩

theorem meetB_f1 {a b c d : Int} (h : okB a b = false) : meetB a b c d = false := by simp [meetB, h]
theorem meetB_f2 {a b c d : Int} (h : okB c d = false) : meetB a b c d = false := by simp [meetB, h]
theorem meetB_f3 {a b c d : Int} (h : max a c > min b d) : meetB a b c d = false := by
  have : ¬ max a c ≤ min b d := by omega
  simp only [meetB, decide_eq_false this, Bool.and_false]
theorem meetB_t {a b c d : Int} (h1 : okB a b = true) (h2 : okB c d = true) (h : ¬ max a c > min b d) : meetB a b c d = true := by
  have : max a c ≤ min b d := by omega
  simp only [meetB, h1, h2, decide_eq_true this, Bool.and_true]
theorem meet_0 {a b c d : Int} (h : meetB a b c d = false) : meetE a b c d = 0 ∧ meetL a b c d = 0 := by
  unfold meetE meetL
  rw [h]
  exact ⟨rfl, rfl⟩
theorem meet_1 {a b c d : Int} (h : meetB a b c d = true) : meetE a b c d = max a c ∧ meetL a b c d = min b d := by
  unfold meetE meetL
  rw [h]
  exact ⟨rfl, rfl⟩


theorem shiftB_f1 {e l d : Int} (h : okB e l = false) : shiftB e l d = false := by simp [shiftB, h]
theorem shiftB_f2 {e l d : Int} (h : d > 1048576) : shiftB e l d = false := by
  rw [← Bool.not_eq_true, shiftB_iff]
  omega
theorem shiftB_f3 {e l d : Int} (h : d < -1048576) : shiftB e l d = false := by
  rw [← Bool.not_eq_true, shiftB_iff]
  omega
theorem shiftB_ok {e l d : Int} (h : okB e l = true) : shiftB e l d = okB (e + d) (l + d) := by
  rw [okB_iff] at h
  rw [Bool.eq_iff_iff, shiftB_iff, okB_iff]
  omega
theorem shift_0 {e l d : Int} (h : shiftB e l d = false) : shiftE e l d = 0 ∧ shiftL e l d = 0 := by
  unfold shiftE shiftL
  rw [h]
  exact ⟨rfl, rfl⟩
theorem shift_1 {e l d : Int} (h : shiftB e l d = true) : shiftE e l d = e + d ∧ shiftL e l d = l + d := by
  unfold shiftE shiftL
  rw [h]
  exact ⟨rfl, rfl⟩


end Go.Proofs.Ytphpkcndaifoiaa.Window
