import Derived.Test.YteefkijmodcijaaDoorPkFeasSomeLaw1

/-
  What package order answers, in plain numbers: a request is ten of them, a vehicle five. No program is spoken of here.
-/
namespace Go.Proofs.YteefkijmodcijaaDoor.Order
open Go.Proofs.YteefkijmodcijaaDoor.Place Go.Proofs.YteefkijmodcijaaDoor.Window
set_option linter.unusedVariables false

/-- Does a number lie between two? -/
def btwB (n a b : Int) : Bool := decide (a ≤ n) && decide (n ≤ b)
theorem btwB_iff (n a b : Int) : btwB n a b = true ↔ a ≤ n ∧ n ≤ b := by simp [btwB]

/-- The first of three that does not hold. -/
def ff (b0 b1 b2 : Bool) (e0 e1 e2 : Int) : Int := if b0 then (if b1 then (if b2 then 0 else e2) else e1) else e0

/-- What is wrong with a request, and with a vehicle. -/
def chk (fx fy tx ty pe pl de dl ld sv : Int) : Int := ff (mayB (fx, fy) && mayB (tx, ty)) (okB pe pl && okB de dl) (btwB ld 1 1000 && btwB sv 0 1000) 4 5 6
def veh (hx hy cp st en : Int) : Int := ff (mayB (hx, hy)) (btwB cp 1 100000) (btwB st 0 1048576 && btwB en st 1048576) 4 7 7

theorem ff_zero {b0 b1 b2 : Bool} {e0 e1 e2 : Int} (h0 : e0 ≠ 0) (h1 : e1 ≠ 0) (h2 : e2 ≠ 0) : ff b0 b1 b2 e0 e1 e2 = 0 ↔ b0 = true ∧ b1 = true ∧ b2 = true := by
  cases b0 <;> cases b1 <;> cases b2 <;> simp [ff, h0, h1, h2]

theorem chk_iff (fx fy tx ty pe pl de dl ld sv : Int) : chk fx fy tx ty pe pl de dl ld sv = 0 ↔ (mayB (fx, fy) = true ∧ mayB (tx, ty) = true) ∧ (okB pe pl = true ∧ okB de dl = true) ∧ (1 ≤ ld ∧ ld ≤ 1000) ∧ (0 ≤ sv ∧ sv ≤ 1000) := by
  unfold chk
  rw [ff_zero (by decide) (by decide) (by decide)]
  simp only [Bool.and_eq_true, btwB_iff]
theorem veh_iff (hx hy cp st en : Int) : veh hx hy cp st en = 0 ↔ mayB (hx, hy) = true ∧ (1 ≤ cp ∧ cp ≤ 100000) ∧ (0 ≤ st ∧ st ≤ 1048576) ∧ (st ≤ en ∧ en ≤ 1048576) := by
  unfold veh
  rw [ff_zero (by decide) (by decide) (by decide)]
  simp only [Bool.and_eq_true, btwB_iff]

theorem gap_bd {a b : Int} (ha : 0 ≤ a ∧ a < 1024) (hb : 0 ≤ b ∧ b < 1024) : 0 ≤ gap a b ∧ gap a b ≤ 1023 := by unfold gap; split <;> omega
theorem distV_bd (a b : Int × Int) : 0 ≤ distV a b ∧ distV a b ≤ 2046 := by
  unfold distV
  split
  · next h =>
    simp only [Bool.and_eq_true, mayB_iff] at h
    have h1 := gap_bd h.1.1 h.2.1
    have h2 := gap_bd h.1.2 h.2.2
    omega
  · omega

/-- How much later than its pick a request's drop begins at least. -/
def apV (fx fy tx ty pe pl de dl ld sv : Int) : Int := sv + distV (fx, fy) (tx, ty)
/-- How long it takes at least. -/
def leastV (fx fy tx ty pe pl de dl ld sv : Int) : Int := orNil (decide (chk fx fy tx ty pe pl de dl ld sv = 0)) (apV fx fy tx ty pe pl de dl ld sv + sv)

/-- When both ends begin, and when it is home. -/
def tA (fx fy tx ty pe pl de dl ld sv hx hy cp st en : Int) : Int := max (st + distV (hx, hy) (fx, fy)) pe
def tB (fx fy tx ty pe pl de dl ld sv hx hy cp st en : Int) : Int := max (tA fx fy tx ty pe pl de dl ld sv hx hy cp st en + sv + distV (fx, fy) (tx, ty)) de
def tH (fx fy tx ty pe pl de dl ld sv hx hy cp st en : Int) : Int := tB fx fy tx ty pe pl de dl ld sv hx hy cp st en + sv + distV (tx, ty) (hx, hy)
/-- Can it be served alone? -/
def aloneB (fx fy tx ty pe pl de dl ld sv hx hy cp st en : Int) : Bool := decide (chk fx fy tx ty pe pl de dl ld sv = 0 ∧ veh hx hy cp st en = 0 ∧ ld ≤ cp ∧ tA fx fy tx ty pe pl de dl ld sv hx hy cp st en ≤ pl ∧ tB fx fy tx ty pe pl de dl ld sv hx hy cp st en ≤ dl ∧ tH fx fy tx ty pe pl de dl ld sv hx hy cp st en ≤ en)
def aloneV (fx fy tx ty pe pl de dl ld sv hx hy cp st en : Int) : Int := orNil (aloneB fx fy tx ty pe pl de dl ld sv hx hy cp st en) (tH fx fy tx ty pe pl de dl ld sv hx hy cp st en)
theorem aloneB_iff (fx fy tx ty pe pl de dl ld sv hx hy cp st en : Int) : aloneB fx fy tx ty pe pl de dl ld sv hx hy cp st en = true ↔ chk fx fy tx ty pe pl de dl ld sv = 0 ∧ veh hx hy cp st en = 0 ∧ ld ≤ cp ∧ tA fx fy tx ty pe pl de dl ld sv hx hy cp st en ≤ pl ∧ tB fx fy tx ty pe pl de dl ld sv hx hy cp st en ≤ dl ∧ tH fx fy tx ty pe pl de dl ld sv hx hy cp st en ≤ en := by simp [aloneB]
theorem alone_no {fx fy tx ty pe pl de dl ld sv hx hy cp st en : Int} (h : ¬ (chk fx fy tx ty pe pl de dl ld sv = 0 ∧ veh hx hy cp st en = 0 ∧ ld ≤ cp ∧ tA fx fy tx ty pe pl de dl ld sv hx hy cp st en ≤ pl ∧ tB fx fy tx ty pe pl de dl ld sv hx hy cp st en ≤ dl ∧ tH fx fy tx ty pe pl de dl ld sv hx hy cp st en ≤ en)) : aloneB fx fy tx ty pe pl de dl ld sv hx hy cp st en = false ∧ aloneV fx fy tx ty pe pl de dl ld sv hx hy cp st en = 0 := by
  have h1 : aloneB fx fy tx ty pe pl de dl ld sv hx hy cp st en = false := by rw [← Bool.not_eq_true, aloneB_iff]; exact h
  exact ⟨h1, by simp [aloneV, h1, orNil]⟩
theorem alone_yes {fx fy tx ty pe pl de dl ld sv hx hy cp st en : Int} (h : chk fx fy tx ty pe pl de dl ld sv = 0 ∧ veh hx hy cp st en = 0 ∧ ld ≤ cp ∧ tA fx fy tx ty pe pl de dl ld sv hx hy cp st en ≤ pl ∧ tB fx fy tx ty pe pl de dl ld sv hx hy cp st en ≤ dl ∧ tH fx fy tx ty pe pl de dl ld sv hx hy cp st en ≤ en) : aloneB fx fy tx ty pe pl de dl ld sv hx hy cp st en = true ∧ aloneV fx fy tx ty pe pl de dl ld sv hx hy cp st en = tH fx fy tx ty pe pl de dl ld sv hx hy cp st en := by
  have h1 : aloneB fx fy tx ty pe pl de dl ld sv hx hy cp st en = true := by rw [aloneB_iff]; exact h
  exact ⟨h1, by simp [aloneV, h1, orNil]⟩

/-- Can it be tight; and how. -/
def tightB (fx fy tx ty pe pl de dl ld sv : Int) : Bool := decide (chk fx fy tx ty pe pl de dl ld sv = 0 ∧ pe + apV fx fy tx ty pe pl de dl ld sv ≤ dl)
def tightL (fx fy tx ty pe pl de dl ld sv : Int) : Int := min pl (dl - apV fx fy tx ty pe pl de dl ld sv)
def tightE (fx fy tx ty pe pl de dl ld sv : Int) : Int := max de (pe + apV fx fy tx ty pe pl de dl ld sv)
theorem tightB_iff (fx fy tx ty pe pl de dl ld sv : Int) : tightB fx fy tx ty pe pl de dl ld sv = true ↔ chk fx fy tx ty pe pl de dl ld sv = 0 ∧ pe + apV fx fy tx ty pe pl de dl ld sv ≤ dl := by simp [tightB]
theorem tightB_no (fx fy tx ty pe pl de dl ld sv : Int) : tightB fx fy tx ty pe pl de dl ld sv = false ↔ ¬ (chk fx fy tx ty pe pl de dl ld sv = 0 ∧ pe + apV fx fy tx ty pe pl de dl ld sv ≤ dl) := by rw [← Bool.not_eq_true, tightB_iff]

theorem apV_bd {fx fy tx ty pe pl de dl ld sv : Int} (h : 0 ≤ sv ∧ sv ≤ 1000) : 0 ≤ apV fx fy tx ty pe pl de dl ld sv ∧ apV fx fy tx ty pe pl de dl ld sv ≤ 3046 := by
  have h1 := distV_bd (fx, fy) (tx, ty)
  unfold apV
  omega

/-- What is tight may be. -/
theorem tight_chk {fx fy tx ty pe pl de dl ld sv : Int} (h : tightB fx fy tx ty pe pl de dl ld sv = true) : chk fx fy tx ty pe (tightL fx fy tx ty pe pl de dl ld sv) (tightE fx fy tx ty pe pl de dl ld sv) dl ld sv = 0 := by
  rw [tightB_iff] at h
  obtain ⟨hc, h1⟩ := h
  have hc' := (chk_iff fx fy tx ty pe pl de dl ld sv).1 hc
  obtain ⟨h2, ⟨h3, h4⟩, h5, h6⟩ := hc'
  have hb := apV_bd (fx := fx) (fy := fy) (tx := tx) (ty := ty) (pe := pe) (pl := pl) (de := de) (dl := dl) (ld := ld) h6
  rw [chk_iff]
  refine ⟨h2, ⟨?_, ?_⟩, h5, h6⟩
  · rw [okB_iff] at h3 h4 ⊢
    unfold tightL
    omega
  · rw [okB_iff] at h3 h4 ⊢
    unfold tightE
    omega
theorem apV_same (fx fy tx ty pe pl de dl ld sv a b : Int) : apV fx fy tx ty pe a b dl ld sv = apV fx fy tx ty pe pl de dl ld sv := rfl
theorem tight_again {fx fy tx ty pe pl de dl ld sv : Int} (h : tightB fx fy tx ty pe pl de dl ld sv = true) : tightB fx fy tx ty pe (tightL fx fy tx ty pe pl de dl ld sv) (tightE fx fy tx ty pe pl de dl ld sv) dl ld sv = true ∧ tightL fx fy tx ty pe (tightL fx fy tx ty pe pl de dl ld sv) (tightE fx fy tx ty pe pl de dl ld sv) dl ld sv = tightL fx fy tx ty pe pl de dl ld sv ∧ tightE fx fy tx ty pe (tightL fx fy tx ty pe pl de dl ld sv) (tightE fx fy tx ty pe pl de dl ld sv) dl ld sv = tightE fx fy tx ty pe pl de dl ld sv := by
  have h0 := tight_chk h
  rw [tightB_iff] at h
  rw [tightB_iff]
  unfold tightL tightE
  simp only [apV_same fx fy tx ty pe pl de dl ld sv]
  refine ⟨⟨h0, h.2⟩, by omega, by omega⟩

/-- Whoever serves a request serves what is tight, in the same time, and the other way round. -/
theorem tight_alone {fx fy tx ty pe pl de dl ld sv : Int} (hx hy cp st en : Int) (h : tightB fx fy tx ty pe pl de dl ld sv = true) : aloneB fx fy tx ty pe (tightL fx fy tx ty pe pl de dl ld sv) (tightE fx fy tx ty pe pl de dl ld sv) dl ld sv hx hy cp st en = aloneB fx fy tx ty pe pl de dl ld sv hx hy cp st en ∧ aloneV fx fy tx ty pe (tightL fx fy tx ty pe pl de dl ld sv) (tightE fx fy tx ty pe pl de dl ld sv) dl ld sv hx hy cp st en = aloneV fx fy tx ty pe pl de dl ld sv hx hy cp st en := by
  have h0 := tight_chk h
  have h1 := h
  rw [tightB_iff] at h1
  obtain ⟨hc, h2⟩ := h1
  have e1 : tA fx fy tx ty pe (tightL fx fy tx ty pe pl de dl ld sv) (tightE fx fy tx ty pe pl de dl ld sv) dl ld sv hx hy cp st en = tA fx fy tx ty pe pl de dl ld sv hx hy cp st en := rfl
  have e2 : tB fx fy tx ty pe (tightL fx fy tx ty pe pl de dl ld sv) (tightE fx fy tx ty pe pl de dl ld sv) dl ld sv hx hy cp st en = tB fx fy tx ty pe pl de dl ld sv hx hy cp st en := by
    unfold tB
    rw [e1]
    have : pe ≤ tA fx fy tx ty pe pl de dl ld sv hx hy cp st en := by unfold tA; omega
    unfold tightE apV
    omega
  have e3 : tH fx fy tx ty pe (tightL fx fy tx ty pe pl de dl ld sv) (tightE fx fy tx ty pe pl de dl ld sv) dl ld sv hx hy cp st en = tH fx fy tx ty pe pl de dl ld sv hx hy cp st en := by unfold tH; rw [e2]
  have hl : tB fx fy tx ty pe pl de dl ld sv hx hy cp st en ≤ dl → (tA fx fy tx ty pe pl de dl ld sv hx hy cp st en ≤ tightL fx fy tx ty pe pl de dl ld sv ↔ tA fx fy tx ty pe pl de dl ld sv hx hy cp st en ≤ pl) := by
    intro hb
    have : tA fx fy tx ty pe pl de dl ld sv hx hy cp st en + apV fx fy tx ty pe pl de dl ld sv ≤ tB fx fy tx ty pe pl de dl ld sv hx hy cp st en := by unfold tB apV; omega
    unfold tightL
    omega
  have hB : aloneB fx fy tx ty pe (tightL fx fy tx ty pe pl de dl ld sv) (tightE fx fy tx ty pe pl de dl ld sv) dl ld sv hx hy cp st en = aloneB fx fy tx ty pe pl de dl ld sv hx hy cp st en := by
    rw [Bool.eq_iff_iff, aloneB_iff, aloneB_iff, e1, e2, e3]
    constructor
    · rintro ⟨a, b, c, d, e, f⟩; exact ⟨hc, b, c, (hl e).1 d, e, f⟩
    · rintro ⟨a, b, c, d, e, f⟩; exact ⟨h0, b, c, (hl e).2 d, e, f⟩
  exact ⟨hB, by unfold aloneV; rw [hB, e3]⟩

/-- What can't be tight is served by nobody. -/
theorem untight {fx fy tx ty pe pl de dl ld sv : Int} (hx hy cp st en : Int) (h : tightB fx fy tx ty pe pl de dl ld sv = false) : aloneB fx fy tx ty pe pl de dl ld sv hx hy cp st en = false := by
  rw [tightB_no] at h
  rw [← Bool.not_eq_true, aloneB_iff]
  rintro ⟨a, b, c, d, e, f⟩
  apply h
  refine ⟨a, ?_⟩
  have h1 : pe ≤ tA fx fy tx ty pe pl de dl ld sv hx hy cp st en := by unfold tA; omega
  have h2 : tA fx fy tx ty pe pl de dl ld sv hx hy cp st en + apV fx fy tx ty pe pl de dl ld sv ≤ tB fx fy tx ty pe pl de dl ld sv hx hy cp st en := by unfold tB apV; omega
  omega

/-- The end of OrderTight. -/
theorem tight_least {fx fy tx ty pe pl de dl ld sv : Int} (h : tightB fx fy tx ty pe pl de dl ld sv = true) : tightL fx fy tx ty pe pl de dl ld sv + leastV fx fy tx ty pe (tightL fx fy tx ty pe pl de dl ld sv) (tightE fx fy tx ty pe pl de dl ld sv) dl ld sv - sv ≤ dl := by
  have h0 := tight_chk h
  unfold leastV
  rw [apV_same fx fy tx ty pe pl de dl ld sv]
  simp only [h0, decide_true, orNil_t]
  unfold tightL
  omega

/-- Who starts earlier, or has more room, or more time. -/
theorem early_serves {fx fy tx ty pe pl de dl ld sv hx hy cp st en cp2 st2 en2 : Int} (h : aloneB fx fy tx ty pe pl de dl ld sv hx hy cp st en = true) (h1 : st2 ≤ st) (h2 : 0 ≤ st2) (h3 : cp ≤ cp2) (h4 : cp2 ≤ 100000) (h5 : en ≤ en2) (h6 : en2 ≤ 1048576) :
    aloneB fx fy tx ty pe pl de dl ld sv hx hy cp2 st2 en2 = true ∧ tH fx fy tx ty pe pl de dl ld sv hx hy cp2 st2 en2 ≤ tH fx fy tx ty pe pl de dl ld sv hx hy cp st en := by
  rw [aloneB_iff] at h ⊢
  obtain ⟨a, b, c, d, e, f⟩ := h
  have b' := (veh_iff hx hy cp st en).1 b
  have e1 : tA fx fy tx ty pe pl de dl ld sv hx hy cp2 st2 en2 ≤ tA fx fy tx ty pe pl de dl ld sv hx hy cp st en := by unfold tA; omega
  have e2 : tB fx fy tx ty pe pl de dl ld sv hx hy cp2 st2 en2 ≤ tB fx fy tx ty pe pl de dl ld sv hx hy cp st en := by unfold tB; omega
  have e3 : tH fx fy tx ty pe pl de dl ld sv hx hy cp2 st2 en2 ≤ tH fx fy tx ty pe pl de dl ld sv hx hy cp st en := by unfold tH; omega
  refine ⟨⟨a, ?_, by omega, by omega, by omega, by omega⟩, e3⟩
  rw [veh_iff]
  exact ⟨b'.1, by omega, by omega, by omega⟩
theorem early_least {fx fy tx ty pe pl de dl ld sv hx hy cp st en : Int} (h : aloneB fx fy tx ty pe pl de dl ld sv hx hy cp st en = true) : st + leastV fx fy tx ty pe pl de dl ld sv ≤ tH fx fy tx ty pe pl de dl ld sv hx hy cp st en ∧ tH fx fy tx ty pe pl de dl ld sv hx hy cp st en ≤ en := by
  rw [aloneB_iff] at h
  obtain ⟨a, b, c, d, e, f⟩ := h
  have b' := (veh_iff hx hy cp st en).1 b
  have d1 := distV_bd (hx, hy) (fx, fy)
  have d2 := distV_bd (tx, ty) (hx, hy)
  refine ⟨?_, f⟩
  unfold leastV
  simp only [a, decide_true, orNil_t]
  unfold tH tB tA apV
  omega

/-- A number brought between two. -/
def btwV (n a b : Int) : Int := a + n % 18446744073709551616 % (b - a + 1)
theorem btwV_bd (n a b : Int) (h : a ≤ b) : a ≤ btwV n a b ∧ btwV n a b ≤ b := by
  unfold btwV
  have h1 := Int.emod_nonneg (n % 18446744073709551616) (show b - a + 1 ≠ 0 by omega)
  have h2 := Int.emod_lt_of_pos (n % 18446744073709551616) (show 0 < b - a + 1 by omega)
  omega

end Go.Proofs.YteefkijmodcijaaDoor.Order
