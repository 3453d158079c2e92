import Derived.Test.YtfoflfeaegfnnaaPkWindowFuncs2

/-
  Contracts of the document's answers for window.
-/
namespace Go.Proofs.Ytfoflfeaegfnnaa.Window
open Go.RowKit Go.Sort
open Go.Proofs.Ytfoflfeaegfnnaa.Mem Go.Proofs.Ytfoflfeaegfnnaa.Tail
set_option linter.unusedVariables false

theorem hasB_f {e l t : Int} (h : okB e l = false) : hasB e l t = false := by simp [hasB, h]
theorem hasB_t1 {e l t : Int} (h : okB e l = true) (h1 : ¬ e ≤ t) : hasB e l t = false := by simp [hasB, h, h1]
theorem hasB_t2 {e l t : Int} (h : okB e l = true) (h1 : e ≤ t) : hasB e l t = decide (t ≤ l) := by simp [hasB, h, h1]



theorem meetB_f1 {a b c d : Int} (h : okB a b = false) : meetB a b c d = false := by simp [meetB, h]
theorem meetB_f2 {a b c d : Int} (h : okB c d = false) : meetB a b c d = false := by simp [meetB, h]
theorem meetB_f3 {a b c d : Int} (h : max a c > min b d) : meetB a b c d = false := by
  have : ¬ max a c ≤ min b d := by omega
  simp only [meetB, decide_eq_false this, Bool.and_false]
theorem meetB_t {a b c d : Int} (h1 : okB a b = true) (h2 : okB c d = true) (h : ¬ max a c > min b d) : meetB a b c d = true := by
  have : max a c ≤ min b d := by omega
  simp only [meetB, h1, h2, decide_eq_true this, Bool.and_true]
theorem meet_0 {a b c d : Int} (h : meetB a b c d = false) : meetE a b c d = 0 ∧ meetL a b c d = 0 := by
  unfold meetE meetL
  rw [h]
  exact ⟨rfl, rfl⟩
theorem meet_1 {a b c d : Int} (h : meetB a b c d = true) : meetE a b c d = max a c ∧ meetL a b c d = min b d := by
  unfold meetE meetL
  rw [h]
  exact ⟨rfl, rfl⟩


theorem shiftB_f1 {e l d : Int} (h : okB e l = false) : shiftB e l d = false := by simp [shiftB, h]
theorem shiftB_f2 {e l d : Int} (h : d > 1048576) : shiftB e l d = false := by
  rw [← Bool.not_eq_true, shiftB_iff]
  omega
theorem shiftB_f3 {e l d : Int} (h : d < -1048576) : shiftB e l d = false := by
  rw [← Bool.not_eq_true, shiftB_iff]
  omega
theorem shiftB_ok {e l d : Int} (h : okB e l = true) : shiftB e l d = okB (e + d) (l + d) := by
  rw [okB_iff] at h
  rw [Bool.eq_iff_iff, shiftB_iff, okB_iff]
  omega
theorem shift_0 {e l d : Int} (h : shiftB e l d = false) : shiftE e l d = 0 ∧ shiftL e l d = 0 := by
  unfold shiftE shiftL
  rw [h]
  exact ⟨rfl, rfl⟩
theorem shift_1 {e l d : Int} (h : shiftB e l d = true) : shiftE e l d = e + d ∧ shiftL e l d = l + d := by
  unfold shiftE shiftL
  rw [h]
  exact ⟨rfl, rfl⟩


end Go.Proofs.Ytfoflfeaegfnnaa.Window
