

namespace Go.Proofs.YteclpblfleakhaaGreatDoor.Place
def sideB (n : Int) : Bool := decide (0 ≤ n) && decide (n < 1024)
def mayB (p : Int × Int) : Bool := sideB p.1 && sideB p.2
def gap (a b : Int) : Int := if a < b then b - a else a - b
def distV (a b : Int × Int) : Int := if mayB a && mayB b then gap a.1 b.1 + gap a.2 b.2 else 0
theorem sideB_iff (n : Int) : sideB n = true ↔ 0 ≤ n ∧ n < 1024 := by simp [sideB]
theorem mayB_iff (p : Int × Int) : mayB p = true ↔ (0 ≤ p.1 ∧ p.1 < 1024) ∧ 0 ≤ p.2 ∧ p.2 < 1024 := by simp [mayB, sideB_iff]
theorem sideB_no (n : Int) : sideB n = false ↔ n < 0 ∨ 1024 ≤ n := by
 rw [Bool.eq_false_iff, ne_eq, sideB_iff]
 omega
theorem distV_yes {a b : Int × Int} (ha : mayB a = true) (hb : mayB b = true) : distV a b = gap a.1 b.1 + gap a.2 b.2 := by simp [distV, ha, hb]
theorem distV_no1 {a b : Int × Int} (ha : mayB a = false) : distV a b = 0 := by simp [distV, ha]
theorem distV_no2 {a b : Int × Int} (hb : mayB b = false) : distV a b = 0 := by simp [distV, hb]
end Go.Proofs.YteclpblfleakhaaGreatDoor.Place
namespace Go.Proofs.YteclpblfleakhaaGreatDoor.Window
def okB (e l : Int) : Bool := decide (0 ≤ e) && (decide (e ≤ l) && decide (l ≤ 1048576))
theorem okB_iff (e l : Int) : okB e l = true ↔ 0 ≤ e ∧ e ≤ l ∧ l ≤ 1048576 := by simp [okB]
theorem okB_no (e l : Int) : okB e l = false ↔ e < 0 ∨ l < e ∨ 1048576 < l := by
 rw [← Bool.not_eq_true, okB_iff]
 omega
def hasB (e l t : Int) : Bool := okB e l && (decide (e ≤ t) && decide (t ≤ l))
theorem hasB_iff (e l t : Int) : hasB e l t = true ↔ (0 ≤ e ∧ e ≤ l ∧ l ≤ 1048576) ∧ e ≤ t ∧ t ≤ l := by simp [hasB, okB_iff]
def orNil (b : Bool) (v : Int) : Int := if b then v else 0
theorem orNil_t (v : Int) : orNil true v = v := rfl
theorem orNil_f (v : Int) : orNil false v = 0 := rfl
def waitB (e l t : Int) : Bool := hasB e l (max t e)
def waitV (e l t : Int) : Int := orNil (waitB e l t) (max t e)
theorem waitB_iff (e l t : Int) : waitB e l t = true ↔ (0 ≤ e ∧ e ≤ l ∧ l ≤ 1048576) ∧ t ≤ l := by
 simp only [waitB, hasB_iff]
 omega
end Go.Proofs.YteclpblfleakhaaGreatDoor.Window
namespace Go.Proofs.YteclpblfleakhaaGreatDoor.Order
open Go.Proofs.YteclpblfleakhaaGreatDoor.Place Go.Proofs.YteclpblfleakhaaGreatDoor.Window
set_option linter.unusedVariables false
def btwB (n a b : Int) : Bool := decide (a ≤ n) && decide (n ≤ b)
theorem btwB_iff (n a b : Int) : btwB n a b = true ↔ a ≤ n ∧ n ≤ b := by simp [btwB]
def ff (b0 b1 b2 : Bool) (e0 e1 e2 : Int) : Int := if b0 then (if b1 then (if b2 then 0 else e2) else e1) else e0
def chk (fx fy tx ty pe pl de dl ld sv : Int) : Int := ff (mayB (fx, fy) && mayB (tx, ty)) (okB pe pl && okB de dl) (btwB ld 1 1000 && btwB sv 0 1000) 4 5 6
def veh (hx hy cp st en : Int) : Int := ff (mayB (hx, hy)) (btwB cp 1 100000) (btwB st 0 1048576 && btwB en st 1048576) 4 7 7
theorem ff_zero {b0 b1 b2 : Bool} {e0 e1 e2 : Int} (h0 : e0 ≠ 0) (h1 : e1 ≠ 0) (h2 : e2 ≠ 0) : ff b0 b1 b2 e0 e1 e2 = 0 ↔ b0 = true ∧ b1 = true ∧ b2 = true := by
 cases b0 <;> cases b1 <;> cases b2 <;> simp [ff, h0, h1, h2]
theorem chk_iff (fx fy tx ty pe pl de dl ld sv : Int) : chk fx fy tx ty pe pl de dl ld sv = 0 ↔ (mayB (fx, fy) = true ∧ mayB (tx, ty) = true) ∧ (okB pe pl = true ∧ okB de dl = true) ∧ (1 ≤ ld ∧ ld ≤ 1000) ∧ (0 ≤ sv ∧ sv ≤ 1000) := by
 unfold chk
 rw [ff_zero (by decide) (by decide) (by decide)]
 simp only [Bool.and_eq_true, btwB_iff]
theorem veh_iff (hx hy cp st en : Int) : veh hx hy cp st en = 0 ↔ mayB (hx, hy) = true ∧ (1 ≤ cp ∧ cp ≤ 100000) ∧ (0 ≤ st ∧ st ≤ 1048576) ∧ (st ≤ en ∧ en ≤ 1048576) := by
 unfold veh
 rw [ff_zero (by decide) (by decide) (by decide)]
 simp only [Bool.and_eq_true, btwB_iff]
theorem gap_bd {a b : Int} (ha : 0 ≤ a ∧ a < 1024) (hb : 0 ≤ b ∧ b < 1024) : 0 ≤ gap a b ∧ gap a b ≤ 1023 := by unfold gap; split <;> omega
theorem distV_bd (a b : Int × Int) : 0 ≤ distV a b ∧ distV a b ≤ 2046 := by
 unfold distV
 split
 · next h =>
   simp only [Bool.and_eq_true, mayB_iff] at h
   have h1 := gap_bd h.1.1 h.2.1
   have h2 := gap_bd h.1.2 h.2.2
   omega
 · omega
def apV (fx fy tx ty pe pl de dl ld sv : Int) : Int := sv + distV (fx, fy) (tx, ty)
def leastV (fx fy tx ty pe pl de dl ld sv : Int) : Int := orNil (decide (chk fx fy tx ty pe pl de dl ld sv = 0)) (apV fx fy tx ty pe pl de dl ld sv + sv)
end Go.Proofs.YteclpblfleakhaaGreatDoor.Order
