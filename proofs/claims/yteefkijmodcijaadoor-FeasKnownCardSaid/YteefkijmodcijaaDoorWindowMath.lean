/-
  What package window answers, in plain numbers.
-/
namespace Go.Proofs.YteefkijmodcijaaDoor.Window

/-- May it be? -/
def okB (e l : Int) : Bool := decide (0 ≤ e) && (decide (e ≤ l) && decide (l ≤ 1048576))
theorem okB_iff (e l : Int) : okB e l = true ↔ 0 ≤ e ∧ e ≤ l ∧ l ≤ 1048576 := by simp [okB]
theorem okB_no (e l : Int) : okB e l = false ↔ e < 0 ∨ l < e ∨ 1048576 < l := by
  rw [← Bool.not_eq_true, okB_iff]
  omega

/-- Is t in it? -/
def hasB (e l t : Int) : Bool := okB e l && (decide (e ≤ t) && decide (t ≤ l))
theorem hasB_iff (e l t : Int) : hasB e l t = true ↔ (0 ≤ e ∧ e ≤ l ∧ l ≤ 1048576) ∧ e ≤ t ∧ t ≤ l := by simp [hasB, okB_iff]
theorem hasB_no (e l t : Int) : hasB e l t = false ↔ ¬ ((0 ≤ e ∧ e ≤ l ∧ l ≤ 1048576) ∧ e ≤ t ∧ t ≤ l) := by
  rw [← Bool.not_eq_true, hasB_iff]

/-- A value, where there is one. -/
def orNil (b : Bool) (v : Int) : Int := if b then v else 0
theorem orNil_t (v : Int) : orNil true v = v := rfl
theorem orNil_f (v : Int) : orNil false v = 0 := rfl

/-- Do two have a time together? -/
def meetB (a b c d : Int) : Bool := (okB a b && okB c d) && decide (max a c ≤ min b d)
def meetE (a b c d : Int) : Int := orNil (meetB a b c d) (max a c)
def meetL (a b c d : Int) : Int := orNil (meetB a b c d) (min b d)
theorem meetB_iff (a b c d : Int) : meetB a b c d = true ↔ (0 ≤ a ∧ a ≤ b ∧ b ≤ 1048576) ∧ (0 ≤ c ∧ c ≤ d ∧ d ≤ 1048576) ∧ max a c ≤ min b d := by
  simp only [meetB, Bool.and_eq_true, okB_iff, decide_eq_true_eq]
  constructor
  · rintro ⟨⟨h1, h2⟩, h3⟩; exact ⟨h1, h2, h3⟩
  · rintro ⟨h1, h2, h3⟩; exact ⟨⟨h1, h2⟩, h3⟩

/-- When does who comes at t begin? -/
def waitB (e l t : Int) : Bool := hasB e l (max t e)
def waitV (e l t : Int) : Int := orNil (waitB e l t) (max t e)
theorem waitB_iff (e l t : Int) : waitB e l t = true ↔ (0 ≤ e ∧ e ≤ l ∧ l ≤ 1048576) ∧ t ≤ l := by
  simp only [waitB, hasB_iff]
  omega

/-- Shifted by d. -/
def shiftB (e l d : Int) : Bool := okB e l && (decide (-e ≤ d) && decide (d ≤ 1048576 - l))
def shiftE (e l d : Int) : Int := orNil (shiftB e l d) (e + d)
def shiftL (e l d : Int) : Int := orNil (shiftB e l d) (l + d)
theorem shiftB_iff (e l d : Int) : shiftB e l d = true ↔ (0 ≤ e ∧ e ≤ l ∧ l ≤ 1048576) ∧ -e ≤ d ∧ d ≤ 1048576 - l := by simp [shiftB, okB_iff]

end Go.Proofs.YteefkijmodcijaaDoor.Window
