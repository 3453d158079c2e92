

namespace Go.Proofs.Ytpefdmkfmcjfnaa.Place
def sideB (n : Int) : Bool := decide (0 ≤ n) && decide (n < 1024)
def mayB (p : Int × Int) : Bool := sideB p.1 && sideB p.2
def gap (a b : Int) : Int := if a < b then b - a else a - b
def distV (a b : Int × Int) : Int := if mayB a && mayB b then gap a.1 b.1 + gap a.2 b.2 else 0
theorem sideB_iff (n : Int) : sideB n = true ↔ 0 ≤ n ∧ n < 1024 := by simp [sideB]
theorem mayB_iff (p : Int × Int) : mayB p = true ↔ (0 ≤ p.1 ∧ p.1 < 1024) ∧ 0 ≤ p.2 ∧ p.2 < 1024 := by simp [mayB, sideB_iff]
theorem sideB_no (n : Int) : sideB n = false ↔ n < 0 ∨ 1024 ≤ n := by
 rw [Bool.eq_false_iff, ne_eq, sideB_iff]
 omega
end Go.Proofs.Ytpefdmkfmcjfnaa.Place
namespace Go.Proofs.Ytpefdmkfmcjfnaa.Window
def okB (e l : Int) : Bool := decide (0 ≤ e) && (decide (e ≤ l) && decide (l ≤ 1048576))
theorem okB_iff (e l : Int) : okB e l = true ↔ 0 ≤ e ∧ e ≤ l ∧ l ≤ 1048576 := by simp [okB]
theorem okB_no (e l : Int) : okB e l = false ↔ e < 0 ∨ l < e ∨ 1048576 < l := by
 rw [← Bool.not_eq_true, okB_iff]
 omega
end Go.Proofs.Ytpefdmkfmcjfnaa.Window
namespace Go.Proofs.Ytpefdmkfmcjfnaa.Order
open Go.Proofs.Ytpefdmkfmcjfnaa.Place Go.Proofs.Ytpefdmkfmcjfnaa.Window
set_option linter.unusedVariables false
def btwB (n a b : Int) : Bool := decide (a ≤ n) && decide (n ≤ b)
theorem btwB_iff (n a b : Int) : btwB n a b = true ↔ a ≤ n ∧ n ≤ b := by simp [btwB]
def ff (b0 b1 b2 : Bool) (e0 e1 e2 : Int) : Int := if b0 then (if b1 then (if b2 then 0 else e2) else e1) else e0
def chk (fx fy tx ty pe pl de dl ld sv : Int) : Int := ff (mayB (fx, fy) && mayB (tx, ty)) (okB pe pl && okB de dl) (btwB ld 1 1000 && btwB sv 0 1000) 4 5 6
theorem ff_zero {b0 b1 b2 : Bool} {e0 e1 e2 : Int} (h0 : e0 ≠ 0) (h1 : e1 ≠ 0) (h2 : e2 ≠ 0) : ff b0 b1 b2 e0 e1 e2 = 0 ↔ b0 = true ∧ b1 = true ∧ b2 = true := by
 cases b0 <;> cases b1 <;> cases b2 <;> simp [ff, h0, h1, h2]
theorem chk_iff (fx fy tx ty pe pl de dl ld sv : Int) : chk fx fy tx ty pe pl de dl ld sv = 0 ↔ (mayB (fx, fy) = true ∧ mayB (tx, ty) = true) ∧ (okB pe pl = true ∧ okB de dl = true) ∧ (1 ≤ ld ∧ ld ≤ 1000) ∧ (0 ≤ sv ∧ sv ≤ 1000) := by
 unfold chk
 rw [ff_zero (by decide) (by decide) (by decide)]
 simp only [Bool.and_eq_true, btwB_iff]
def tA (fx fy tx ty pe pl de dl ld sv hx hy cp st en : Int) : Int := max (st + distV (hx, hy) (fx, fy)) pe
def tB (fx fy tx ty pe pl de dl ld sv hx hy cp st en : Int) : Int := max (tA fx fy tx ty pe pl de dl ld sv hx hy cp st en + sv + distV (fx, fy) (tx, ty)) de
end Go.Proofs.Ytpefdmkfmcjfnaa.Order
