

/-
  Places on the grid, in plain Lean: what may be, how far it is, and the places of a way by their number. No program is spoken of here.
-/
namespace Go.Proofs.YthjdacbgcpldjaaDoor.Place

/-- A number is on a side of the grid. -/
def sideB (n : Int) : Bool := decide (0 ≤ n) && decide (n < 1024)
/-- A place may be. -/
def mayB (p : Int × Int) : Bool := sideB p.1 && sideB p.2
/-- By how much two numbers differ. -/
def gap (a b : Int) : Int := if a < b then b - a else a - b
/-- How far it is. -/
def distV (a b : Int × Int) : Int := if mayB a && mayB b then gap a.1 b.1 + gap a.2 b.2 else 0
/-- Which of two numbers is greater, as -1, 0 or 1. -/
def cmpV (a b : Int) : Int := if a < b then -1 else if b < a then 1 else 0

theorem sideB_iff (n : Int) : sideB n = true ↔ 0 ≤ n ∧ n < 1024 := by simp [sideB]
theorem mayB_iff (p : Int × Int) : mayB p = true ↔ (0 ≤ p.1 ∧ p.1 < 1024) ∧ 0 ≤ p.2 ∧ p.2 < 1024 := by simp [mayB, sideB_iff]
theorem sideB_no (n : Int) : sideB n = false ↔ n < 0 ∨ 1024 ≤ n := by
  rw [Bool.eq_false_iff, ne_eq, sideB_iff]
  omega
theorem distV_yes {a b : Int × Int} (ha : mayB a = true) (hb : mayB b = true) : distV a b = gap a.1 b.1 + gap a.2 b.2 := by simp [distV, ha, hb]
theorem distV_no1 {a b : Int × Int} (ha : mayB a = false) : distV a b = 0 := by simp [distV, ha]
theorem distV_no2 {a b : Int × Int} (hb : mayB b = false) : distV a b = 0 := by simp [distV, hb]

/-- How far it is along X, and along Y, as counts. -/
def nx (a b : Int × Int) : Nat := (gap a.1 b.1).toNat
def ny (a b : Int × Int) : Nat := (gap a.2 b.2).toNat
/-- From n by k towards m, no further than m. -/
def toward (n m : Int) (k : Nat) : Int := if n < m then (if n + k < m then n + k else m) else (if m < n - k then n - k else m)
/-- The k-th place of the way from a to b. -/
def pt (a b : Int × Int) (k : Nat) : Int × Int := (toward a.1 b.1 k, toward a.2 b.2 (k - nx a b))
/-- The first k places of the way. -/
def upto (a b : Int × Int) (k : Nat) : List (Int × Int) := (List.range k).map (pt a b)
/-- How many places the way has. -/
def wayN (a b : Int × Int) : Nat := nx a b + ny a b + 1
/-- The way from a to b. -/
def wayL (a b : Int × Int) : List (Int × Int) := if mayB a && mayB b then upto a b (wayN a b) else []

theorem upto_succ (a b : Int × Int) (k : Nat) : upto a b (k + 1) = upto a b k ++ [pt a b k] := by simp [upto, List.range_succ]
theorem upto_length (a b : Int × Int) (k : Nat) : (upto a b k).length = k := by simp [upto]
theorem upto_get (a b : Int × Int) (k j : Nat) (h : j < k) : (upto a b k)[j]? = some (pt a b j) := by simp [upto, h]

theorem toward_0 (n m : Int) : toward n m 0 = n := by unfold toward; split <;> split <;> omega
theorem toward_end {n m : Int} {k : Nat} (h : (gap n m).toNat ≤ k) : toward n m k = m := by unfold toward; unfold gap at h; split at h <;> split <;> split <;> omega
theorem toward_ne {n m : Int} {k : Nat} (h : k < (gap n m).toNat) : toward n m k ≠ m := by unfold toward; unfold gap at h; split at h <;> split <;> split <;> omega
theorem toward_step {n m : Int} {k : Nat} (h : k < (gap n m).toNat) : toward n m k + cmpV m (toward n m k) = toward n m (k + 1) := by
  unfold cmpV toward
  unfold gap at h
  by_cases h1 : n < m
  · simp only [h1, if_true] at h ⊢
    rw [if_pos (by omega)]
    split <;> split <;> first | omega | (split <;> omega)
  · simp only [h1, if_false] at h ⊢
    rw [if_pos (by omega)]
    split <;> split <;> first | omega | (split <;> omega)
theorem toward_side {n m : Int} (k : Nat) (hn : 0 ≤ n ∧ n < 1024) (hm : 0 ≤ m ∧ m < 1024) : 0 ≤ toward n m k ∧ toward n m k < 1024 := by unfold toward; split <;> split <;> omega

theorem pt_0 (a b : Int × Int) : pt a b 0 = a := by simp [pt, toward_0]
theorem pt_corner (a b : Int × Int) : pt a b (nx a b) = (b.1, a.2) := by simp [pt, toward_0, toward_end (n := a.1) (m := b.1) (Nat.le_refl (nx a b))]
theorem pt_end (a b : Int × Int) : pt a b (nx a b + ny a b) = b := by
  simp only [pt]
  rw [toward_end (show (gap a.1 b.1).toNat ≤ nx a b + ny a b from Nat.le_add_right _ _), toward_end (show (gap a.2 b.2).toNat ≤ nx a b + ny a b - nx a b by simp [ny])]
theorem pt_side (a b : Int × Int) (k : Nat) (ha : mayB a = true) (hb : mayB b = true) : mayB (pt a b k) = true := by
  rw [mayB_iff] at *
  exact ⟨toward_side k ha.1 hb.1, toward_side _ ha.2 hb.2⟩

theorem gap_nonneg (a b : Int) : 0 ≤ gap a b := by unfold gap; split <;> omega
theorem gap_self (a : Int) : gap a a = 0 := by unfold gap; split <;> omega
theorem cmp_self (a : Int) : cmpV a a = 0 := by unfold cmpV; split <;> (try split) <;> omega
theorem gap_toward {n m : Int} {k : Nat} (h : k ≤ (gap n m).toNat) : gap (toward n m k) m = gap n m - k := by
  unfold toward
  unfold gap at h ⊢
  by_cases h1 : n < m
  · simp only [h1, if_true] at h ⊢
    split <;> first | omega | (split <;> omega)
  · simp only [h1, if_false] at h ⊢
    split <;> first | omega | (split <;> omega)

/-- The first part of a way: along X, to the corner. -/
theorem part1_ne (a b : Int × Int) {i : Nat} (h : i < nx a b) : ((pt a b i).1 == (pt a b (nx a b)).1) = false := by
  rw [pt_corner, beq_eq_false_iff_ne]
  exact toward_ne h
theorem part1_step (a b : Int × Int) {i : Nat} (h : i < nx a b) : (pt a b i).1 + cmpV (pt a b (nx a b)).1 (pt a b i).1 = (pt a b (i + 1)).1 ∧ (pt a b i).2 + cmpV (pt a b (nx a b)).2 (pt a b i).2 = (pt a b (i + 1)).2 := by
  rw [pt_corner]
  refine ⟨toward_step h, ?_⟩
  simp only [pt]
  rw [show i - nx a b = 0 by omega, show i + 1 - nx a b = 0 by omega, toward_0, cmp_self]
  omega
theorem part1_gap (a b : Int × Int) {i : Nat} (h : i < nx a b) :
    gap (pt a b (i + 1)).1 (pt a b (nx a b)).1 + gap (pt a b (i + 1)).2 (pt a b (nx a b)).2 < gap (pt a b i).1 (pt a b (nx a b)).1 + gap (pt a b i).2 (pt a b (nx a b)).2 := by
  rw [pt_corner]
  simp only [pt]
  rw [show i - nx a b = 0 by omega, show i + 1 - nx a b = 0 by omega, toward_0, gap_toward (show i + 1 ≤ (gap a.1 b.1).toNat from h), gap_toward (show i ≤ (gap a.1 b.1).toNat from Nat.le_of_lt h)]
  omega
/-- The second part: along Y, to the end. -/
theorem part2_x (a b : Int × Int) {i : Nat} (h : nx a b ≤ i) : (pt a b i).1 = b.1 := toward_end h
theorem part2_ne (a b : Int × Int) {i : Nat} (h0 : nx a b ≤ i) (h : i < nx a b + ny a b) : ((pt a b i).2 == (pt a b (nx a b + ny a b)).2) = false := by
  rw [pt_end, beq_eq_false_iff_ne]
  exact toward_ne (show i - nx a b < (gap a.2 b.2).toNat by unfold ny at h; omega)
theorem part2_step (a b : Int × Int) {i : Nat} (h0 : nx a b ≤ i) (h : i < nx a b + ny a b) :
    (pt a b i).1 + cmpV (pt a b (nx a b + ny a b)).1 (pt a b i).1 = (pt a b (i + 1)).1 ∧ (pt a b i).2 + cmpV (pt a b (nx a b + ny a b)).2 (pt a b i).2 = (pt a b (i + 1)).2 := by
  rw [pt_end, part2_x a b h0, part2_x a b (show nx a b ≤ i + 1 by omega), cmp_self]
  refine ⟨by omega, ?_⟩
  simp only [pt]
  rw [show i + 1 - nx a b = i - nx a b + 1 by omega]
  exact toward_step (show i - nx a b < (gap a.2 b.2).toNat by unfold ny at h; omega)
theorem part2_gap (a b : Int × Int) {i : Nat} (h0 : nx a b ≤ i) (h : i < nx a b + ny a b) :
    gap (pt a b (i + 1)).1 (pt a b (nx a b + ny a b)).1 + gap (pt a b (i + 1)).2 (pt a b (nx a b + ny a b)).2 < gap (pt a b i).1 (pt a b (nx a b + ny a b)).1 + gap (pt a b i).2 (pt a b (nx a b + ny a b)).2 := by
  rw [pt_end, part2_x a b h0, part2_x a b (show nx a b ≤ i + 1 by omega)]
  simp only [pt]
  rw [show i + 1 - nx a b = i - nx a b + 1 by omega, gap_toward (show i - nx a b + 1 ≤ (gap a.2 b.2).toNat by unfold ny at h; omega), gap_toward (show i - nx a b ≤ (gap a.2 b.2).toNat by unfold ny at h; omega)]
  omega

/-- One step of a way, as one goes along X first. -/
theorem way_cases (a b : Int × Int) {k : Nat} (h : k < nx a b + ny a b) :
    ((pt a b k).1 < b.1 ∧ (pt a b (k + 1)).1 = (pt a b k).1 + 1 ∧ (pt a b (k + 1)).2 = (pt a b k).2) ∨
    (b.1 < (pt a b k).1 ∧ (pt a b (k + 1)).1 = (pt a b k).1 - 1 ∧ (pt a b (k + 1)).2 = (pt a b k).2) ∨
    ((pt a b k).1 = b.1 ∧ (pt a b k).2 < b.2 ∧ (pt a b (k + 1)).1 = (pt a b k).1 ∧ (pt a b (k + 1)).2 = (pt a b k).2 + 1) ∨
    ((pt a b k).1 = b.1 ∧ b.2 < (pt a b k).2 ∧ (pt a b (k + 1)).1 = (pt a b k).1 ∧ (pt a b (k + 1)).2 = (pt a b k).2 - 1) := by
  by_cases h1 : k < nx a b
  · have hs := part1_step a b h1
    have hn := part1_ne a b h1
    rw [pt_corner] at hs hn
    rw [beq_eq_false_iff_ne] at hn
    simp only at hs hn
    have h2 : (pt a b (k + 1)).2 = (pt a b k).2 := by
      simp only [pt]
      rw [show k - nx a b = 0 by omega, show k + 1 - nx a b = 0 by omega]
    unfold cmpV at hs
    obtain ⟨hs1, _⟩ := hs
    by_cases h3 : (pt a b k).1 < b.1
    · left
      rw [if_neg (by omega), if_pos h3] at hs1
      exact ⟨h3, hs1.symm, h2⟩
    · right; left
      rw [if_pos (by omega)] at hs1
      exact ⟨by omega, by omega, h2⟩
  · have hk : nx a b ≤ k := by omega
    have hs := part2_step a b hk h
    have hn := part2_ne a b hk h
    rw [pt_end] at hs hn
    rw [beq_eq_false_iff_ne] at hn
    have e1 := part2_x a b hk
    have e2 := part2_x a b (show nx a b ≤ k + 1 by omega)
    obtain ⟨_, hs2⟩ := hs
    unfold cmpV at hs2
    by_cases h3 : (pt a b k).2 < b.2
    · right; right; left
      rw [if_neg (by omega), if_pos h3] at hs2
      exact ⟨e1, h3, by omega, hs2.symm⟩
    · right; right; right
      rw [if_pos (by omega)] at hs2
      exact ⟨e1, by omega, by omega, by omega⟩

theorem way_left (a b : Int × Int) {k : Nat} (h : k ≤ nx a b + ny a b) : gap (pt a b k).1 b.1 + gap (pt a b k).2 b.2 = (nx a b + ny a b : Nat) - (k : Int) := by
  have h1 := gap_nonneg a.1 b.1
  have h2 := gap_nonneg a.2 b.2
  have e1 : (nx a b : Int) = gap a.1 b.1 := by unfold nx; omega
  have e2 : (ny a b : Int) = gap a.2 b.2 := by unfold ny; omega
  by_cases hk : k ≤ nx a b
  · simp only [pt]
    rw [show k - nx a b = 0 by omega, toward_0, gap_toward (show k ≤ (gap a.1 b.1).toNat from hk)]
    omega
  · rw [part2_x a b (by omega), gap_self]
    simp only [pt]
    rw [gap_toward (show k - nx a b ≤ (gap a.2 b.2).toNat by unfold ny at h; omega)]
    omega
theorem way_ends (a b : Int × Int) {k : Nat} (h : k = nx a b + ny a b) : (pt a b k).1 = b.1 ∧ (pt a b k).2 = b.2 := by
  rw [h, pt_end]
  exact ⟨rfl, rfl⟩

end Go.Proofs.YthjdacbgcpldjaaDoor.Place

/-
  What package window answers, in plain numbers.
-/
namespace Go.Proofs.YthjdacbgcpldjaaDoor.Window

/-- May it be? -/
def okB (e l : Int) : Bool := decide (0 ≤ e) && (decide (e ≤ l) && decide (l ≤ 1048576))
theorem okB_iff (e l : Int) : okB e l = true ↔ 0 ≤ e ∧ e ≤ l ∧ l ≤ 1048576 := by simp [okB]
theorem okB_no (e l : Int) : okB e l = false ↔ e < 0 ∨ l < e ∨ 1048576 < l := by
  rw [← Bool.not_eq_true, okB_iff]
  omega

/-- Is t in it? -/
def hasB (e l t : Int) : Bool := okB e l && (decide (e ≤ t) && decide (t ≤ l))
theorem hasB_iff (e l t : Int) : hasB e l t = true ↔ (0 ≤ e ∧ e ≤ l ∧ l ≤ 1048576) ∧ e ≤ t ∧ t ≤ l := by simp [hasB, okB_iff]
theorem hasB_no (e l t : Int) : hasB e l t = false ↔ ¬ ((0 ≤ e ∧ e ≤ l ∧ l ≤ 1048576) ∧ e ≤ t ∧ t ≤ l) := by
  rw [← Bool.not_eq_true, hasB_iff]

/-- A value, where there is one. -/
def orNil (b : Bool) (v : Int) : Int := if b then v else 0
theorem orNil_t (v : Int) : orNil true v = v := rfl
theorem orNil_f (v : Int) : orNil false v = 0 := rfl

/-- Do two have a time together? -/
def meetB (a b c d : Int) : Bool := (okB a b && okB c d) && decide (max a c ≤ min b d)
def meetE (a b c d : Int) : Int := orNil (meetB a b c d) (max a c)
def meetL (a b c d : Int) : Int := orNil (meetB a b c d) (min b d)
theorem meetB_iff (a b c d : Int) : meetB a b c d = true ↔ (0 ≤ a ∧ a ≤ b ∧ b ≤ 1048576) ∧ (0 ≤ c ∧ c ≤ d ∧ d ≤ 1048576) ∧ max a c ≤ min b d := by
  simp only [meetB, Bool.and_eq_true, okB_iff, decide_eq_true_eq]
  constructor
  · rintro ⟨⟨h1, h2⟩, h3⟩; exact ⟨h1, h2, h3⟩
  · rintro ⟨h1, h2, h3⟩; exact ⟨⟨h1, h2⟩, h3⟩

/-- When does who comes at t begin? -/
def waitB (e l t : Int) : Bool := hasB e l (max t e)
def waitV (e l t : Int) : Int := orNil (waitB e l t) (max t e)
theorem waitB_iff (e l t : Int) : waitB e l t = true ↔ (0 ≤ e ∧ e ≤ l ∧ l ≤ 1048576) ∧ t ≤ l := by
  simp only [waitB, hasB_iff]
  omega

/-- Shifted by d. -/
def shiftB (e l d : Int) : Bool := okB e l && (decide (-e ≤ d) && decide (d ≤ 1048576 - l))
def shiftE (e l d : Int) : Int := orNil (shiftB e l d) (e + d)
def shiftL (e l d : Int) : Int := orNil (shiftB e l d) (l + d)
theorem shiftB_iff (e l d : Int) : shiftB e l d = true ↔ (0 ≤ e ∧ e ≤ l ∧ l ≤ 1048576) ∧ -e ≤ d ∧ d ≤ 1048576 - l := by simp [shiftB, okB_iff]

end Go.Proofs.YthjdacbgcpldjaaDoor.Window

/-
  What package order answers, in plain numbers: a request is ten of them, a vehicle five. No program is spoken of here.
-/
namespace Go.Proofs.YthjdacbgcpldjaaDoor.Order
open Go.Proofs.YthjdacbgcpldjaaDoor.Place Go.Proofs.YthjdacbgcpldjaaDoor.Window
set_option linter.unusedVariables false

/-- Does a number lie between two? -/
def btwB (n a b : Int) : Bool := decide (a ≤ n) && decide (n ≤ b)
theorem btwB_iff (n a b : Int) : btwB n a b = true ↔ a ≤ n ∧ n ≤ b := by simp [btwB]

/-- The first of three that does not hold. -/
def ff (b0 b1 b2 : Bool) (e0 e1 e2 : Int) : Int := if b0 then (if b1 then (if b2 then 0 else e2) else e1) else e0

/-- What is wrong with a request, and with a vehicle. -/
def chk (fx fy tx ty pe pl de dl ld sv : Int) : Int := ff (mayB (fx, fy) && mayB (tx, ty)) (okB pe pl && okB de dl) (btwB ld 1 1000 && btwB sv 0 1000) 4 5 6
def veh (hx hy cp st en : Int) : Int := ff (mayB (hx, hy)) (btwB cp 1 100000) (btwB st 0 1048576 && btwB en st 1048576) 4 7 7

theorem ff_zero {b0 b1 b2 : Bool} {e0 e1 e2 : Int} (h0 : e0 ≠ 0) (h1 : e1 ≠ 0) (h2 : e2 ≠ 0) : ff b0 b1 b2 e0 e1 e2 = 0 ↔ b0 = true ∧ b1 = true ∧ b2 = true := by
  cases b0 <;> cases b1 <;> cases b2 <;> simp [ff, h0, h1, h2]

theorem chk_iff (fx fy tx ty pe pl de dl ld sv : Int) : chk fx fy tx ty pe pl de dl ld sv = 0 ↔ (mayB (fx, fy) = true ∧ mayB (tx, ty) = true) ∧ (okB pe pl = true ∧ okB de dl = true) ∧ (1 ≤ ld ∧ ld ≤ 1000) ∧ (0 ≤ sv ∧ sv ≤ 1000) := by
  unfold chk
  rw [ff_zero (by decide) (by decide) (by decide)]
  simp only [Bool.and_eq_true, btwB_iff]
theorem veh_iff (hx hy cp st en : Int) : veh hx hy cp st en = 0 ↔ mayB (hx, hy) = true ∧ (1 ≤ cp ∧ cp ≤ 100000) ∧ (0 ≤ st ∧ st ≤ 1048576) ∧ (st ≤ en ∧ en ≤ 1048576) := by
  unfold veh
  rw [ff_zero (by decide) (by decide) (by decide)]
  simp only [Bool.and_eq_true, btwB_iff]

theorem gap_bd {a b : Int} (ha : 0 ≤ a ∧ a < 1024) (hb : 0 ≤ b ∧ b < 1024) : 0 ≤ gap a b ∧ gap a b ≤ 1023 := by unfold gap; split <;> omega
theorem distV_bd (a b : Int × Int) : 0 ≤ distV a b ∧ distV a b ≤ 2046 := by
  unfold distV
  split
  · next h =>
    simp only [Bool.and_eq_true, mayB_iff] at h
    have h1 := gap_bd h.1.1 h.2.1
    have h2 := gap_bd h.1.2 h.2.2
    omega
  · omega

/-- How much later than its pick a request's drop begins at least. -/
def apV (fx fy tx ty pe pl de dl ld sv : Int) : Int := sv + distV (fx, fy) (tx, ty)
/-- How long it takes at least. -/
def leastV (fx fy tx ty pe pl de dl ld sv : Int) : Int := orNil (decide (chk fx fy tx ty pe pl de dl ld sv = 0)) (apV fx fy tx ty pe pl de dl ld sv + sv)

/-- When both ends begin, and when it is home. -/
def tA (fx fy tx ty pe pl de dl ld sv hx hy cp st en : Int) : Int := max (st + distV (hx, hy) (fx, fy)) pe
def tB (fx fy tx ty pe pl de dl ld sv hx hy cp st en : Int) : Int := max (tA fx fy tx ty pe pl de dl ld sv hx hy cp st en + sv + distV (fx, fy) (tx, ty)) de
def tH (fx fy tx ty pe pl de dl ld sv hx hy cp st en : Int) : Int := tB fx fy tx ty pe pl de dl ld sv hx hy cp st en + sv + distV (tx, ty) (hx, hy)
/-- Can it be served alone? -/
def aloneB (fx fy tx ty pe pl de dl ld sv hx hy cp st en : Int) : Bool := decide (chk fx fy tx ty pe pl de dl ld sv = 0 ∧ veh hx hy cp st en = 0 ∧ ld ≤ cp ∧ tA fx fy tx ty pe pl de dl ld sv hx hy cp st en ≤ pl ∧ tB fx fy tx ty pe pl de dl ld sv hx hy cp st en ≤ dl ∧ tH fx fy tx ty pe pl de dl ld sv hx hy cp st en ≤ en)
def aloneV (fx fy tx ty pe pl de dl ld sv hx hy cp st en : Int) : Int := orNil (aloneB fx fy tx ty pe pl de dl ld sv hx hy cp st en) (tH fx fy tx ty pe pl de dl ld sv hx hy cp st en)
theorem aloneB_iff (fx fy tx ty pe pl de dl ld sv hx hy cp st en : Int) : aloneB fx fy tx ty pe pl de dl ld sv hx hy cp st en = true ↔ chk fx fy tx ty pe pl de dl ld sv = 0 ∧ veh hx hy cp st en = 0 ∧ ld ≤ cp ∧ tA fx fy tx ty pe pl de dl ld sv hx hy cp st en ≤ pl ∧ tB fx fy tx ty pe pl de dl ld sv hx hy cp st en ≤ dl ∧ tH fx fy tx ty pe pl de dl ld sv hx hy cp st en ≤ en := by simp [aloneB]
theorem alone_no {fx fy tx ty pe pl de dl ld sv hx hy cp st en : Int} (h : ¬ (chk fx fy tx ty pe pl de dl ld sv = 0 ∧ veh hx hy cp st en = 0 ∧ ld ≤ cp ∧ tA fx fy tx ty pe pl de dl ld sv hx hy cp st en ≤ pl ∧ tB fx fy tx ty pe pl de dl ld sv hx hy cp st en ≤ dl ∧ tH fx fy tx ty pe pl de dl ld sv hx hy cp st en ≤ en)) : aloneB fx fy tx ty pe pl de dl ld sv hx hy cp st en = false ∧ aloneV fx fy tx ty pe pl de dl ld sv hx hy cp st en = 0 := by
  have h1 : aloneB fx fy tx ty pe pl de dl ld sv hx hy cp st en = false := by rw [← Bool.not_eq_true, aloneB_iff]; exact h
  exact ⟨h1, by simp [aloneV, h1, orNil]⟩
theorem alone_yes {fx fy tx ty pe pl de dl ld sv hx hy cp st en : Int} (h : chk fx fy tx ty pe pl de dl ld sv = 0 ∧ veh hx hy cp st en = 0 ∧ ld ≤ cp ∧ tA fx fy tx ty pe pl de dl ld sv hx hy cp st en ≤ pl ∧ tB fx fy tx ty pe pl de dl ld sv hx hy cp st en ≤ dl ∧ tH fx fy tx ty pe pl de dl ld sv hx hy cp st en ≤ en) : aloneB fx fy tx ty pe pl de dl ld sv hx hy cp st en = true ∧ aloneV fx fy tx ty pe pl de dl ld sv hx hy cp st en = tH fx fy tx ty pe pl de dl ld sv hx hy cp st en := by
  have h1 : aloneB fx fy tx ty pe pl de dl ld sv hx hy cp st en = true := by rw [aloneB_iff]; exact h
  exact ⟨h1, by simp [aloneV, h1, orNil]⟩

/-- Can it be tight; and how. -/
def tightB (fx fy tx ty pe pl de dl ld sv : Int) : Bool := decide (chk fx fy tx ty pe pl de dl ld sv = 0 ∧ pe + apV fx fy tx ty pe pl de dl ld sv ≤ dl)
def tightL (fx fy tx ty pe pl de dl ld sv : Int) : Int := min pl (dl - apV fx fy tx ty pe pl de dl ld sv)
def tightE (fx fy tx ty pe pl de dl ld sv : Int) : Int := max de (pe + apV fx fy tx ty pe pl de dl ld sv)
theorem tightB_iff (fx fy tx ty pe pl de dl ld sv : Int) : tightB fx fy tx ty pe pl de dl ld sv = true ↔ chk fx fy tx ty pe pl de dl ld sv = 0 ∧ pe + apV fx fy tx ty pe pl de dl ld sv ≤ dl := by simp [tightB]
theorem tightB_no (fx fy tx ty pe pl de dl ld sv : Int) : tightB fx fy tx ty pe pl de dl ld sv = false ↔ ¬ (chk fx fy tx ty pe pl de dl ld sv = 0 ∧ pe + apV fx fy tx ty pe pl de dl ld sv ≤ dl) := by rw [← Bool.not_eq_true, tightB_iff]

theorem apV_bd {fx fy tx ty pe pl de dl ld sv : Int} (h : 0 ≤ sv ∧ sv ≤ 1000) : 0 ≤ apV fx fy tx ty pe pl de dl ld sv ∧ apV fx fy tx ty pe pl de dl ld sv ≤ 3046 := by
  have h1 := distV_bd (fx, fy) (tx, ty)
  unfold apV
  omega

/-- What is tight may be. -/
theorem tight_chk {fx fy tx ty pe pl de dl ld sv : Int} (h : tightB fx fy tx ty pe pl de dl ld sv = true) : chk fx fy tx ty pe (tightL fx fy tx ty pe pl de dl ld sv) (tightE fx fy tx ty pe pl de dl ld sv) dl ld sv = 0 := by
  rw [tightB_iff] at h
  obtain ⟨hc, h1⟩ := h
  have hc' := (chk_iff fx fy tx ty pe pl de dl ld sv).1 hc
  obtain ⟨h2, ⟨h3, h4⟩, h5, h6⟩ := hc'
  have hb := apV_bd (fx := fx) (fy := fy) (tx := tx) (ty := ty) (pe := pe) (pl := pl) (de := de) (dl := dl) (ld := ld) h6
  rw [chk_iff]
  refine ⟨h2, ⟨?_, ?_⟩, h5, h6⟩
  · rw [okB_iff] at h3 h4 ⊢
    unfold tightL
    omega
  · rw [okB_iff] at h3 h4 ⊢
    unfold tightE
    omega
theorem apV_same (fx fy tx ty pe pl de dl ld sv a b : Int) : apV fx fy tx ty pe a b dl ld sv = apV fx fy tx ty pe pl de dl ld sv := rfl
theorem tight_again {fx fy tx ty pe pl de dl ld sv : Int} (h : tightB fx fy tx ty pe pl de dl ld sv = true) : tightB fx fy tx ty pe (tightL fx fy tx ty pe pl de dl ld sv) (tightE fx fy tx ty pe pl de dl ld sv) dl ld sv = true ∧ tightL fx fy tx ty pe (tightL fx fy tx ty pe pl de dl ld sv) (tightE fx fy tx ty pe pl de dl ld sv) dl ld sv = tightL fx fy tx ty pe pl de dl ld sv ∧ tightE fx fy tx ty pe (tightL fx fy tx ty pe pl de dl ld sv) (tightE fx fy tx ty pe pl de dl ld sv) dl ld sv = tightE fx fy tx ty pe pl de dl ld sv := by
  have h0 := tight_chk h
  rw [tightB_iff] at h
  rw [tightB_iff]
  unfold tightL tightE
  simp only [apV_same fx fy tx ty pe pl de dl ld sv]
  refine ⟨⟨h0, h.2⟩, by omega, by omega⟩

/-- Whoever serves a request serves what is tight, in the same time, and the other way round. -/
theorem tight_alone {fx fy tx ty pe pl de dl ld sv : Int} (hx hy cp st en : Int) (h : tightB fx fy tx ty pe pl de dl ld sv = true) : aloneB fx fy tx ty pe (tightL fx fy tx ty pe pl de dl ld sv) (tightE fx fy tx ty pe pl de dl ld sv) dl ld sv hx hy cp st en = aloneB fx fy tx ty pe pl de dl ld sv hx hy cp st en ∧ aloneV fx fy tx ty pe (tightL fx fy tx ty pe pl de dl ld sv) (tightE fx fy tx ty pe pl de dl ld sv) dl ld sv hx hy cp st en = aloneV fx fy tx ty pe pl de dl ld sv hx hy cp st en := by
  have h0 := tight_chk h
  have h1 := h
  rw [tightB_iff] at h1
  obtain ⟨hc, h2⟩ := h1
  have e1 : tA fx fy tx ty pe (tightL fx fy tx ty pe pl de dl ld sv) (tightE fx fy tx ty pe pl de dl ld sv) dl ld sv hx hy cp st en = tA fx fy tx ty pe pl de dl ld sv hx hy cp st en := rfl
  have e2 : tB fx fy tx ty pe (tightL fx fy tx ty pe pl de dl ld sv) (tightE fx fy tx ty pe pl de dl ld sv) dl ld sv hx hy cp st en = tB fx fy tx ty pe pl de dl ld sv hx hy cp st en := by
    unfold tB
    rw [e1]
    have : pe ≤ tA fx fy tx ty pe pl de dl ld sv hx hy cp st en := by unfold tA; omega
    unfold tightE apV
    omega
  have e3 : tH fx fy tx ty pe (tightL fx fy tx ty pe pl de dl ld sv) (tightE fx fy tx ty pe pl de dl ld sv) dl ld sv hx hy cp st en = tH fx fy tx ty pe pl de dl ld sv hx hy cp st en := by unfold tH; rw [e2]
  have hl : tB fx fy tx ty pe pl de dl ld sv hx hy cp st en ≤ dl → (tA fx fy tx ty pe pl de dl ld sv hx hy cp st en ≤ tightL fx fy tx ty pe pl de dl ld sv ↔ tA fx fy tx ty pe pl de dl ld sv hx hy cp st en ≤ pl) := by
    intro hb
    have : tA fx fy tx ty pe pl de dl ld sv hx hy cp st en + apV fx fy tx ty pe pl de dl ld sv ≤ tB fx fy tx ty pe pl de dl ld sv hx hy cp st en := by unfold tB apV; omega
    unfold tightL
    omega
  have hB : aloneB fx fy tx ty pe (tightL fx fy tx ty pe pl de dl ld sv) (tightE fx fy tx ty pe pl de dl ld sv) dl ld sv hx hy cp st en = aloneB fx fy tx ty pe pl de dl ld sv hx hy cp st en := by
    rw [Bool.eq_iff_iff, aloneB_iff, aloneB_iff, e1, e2, e3]
    constructor
    · rintro ⟨a, b, c, d, e, f⟩; exact ⟨hc, b, c, (hl e).1 d, e, f⟩
    · rintro ⟨a, b, c, d, e, f⟩; exact ⟨h0, b, c, (hl e).2 d, e, f⟩
  exact ⟨hB, by unfold aloneV; rw [hB, e3]⟩

/-- What can't be tight is served by nobody. -/
theorem untight {fx fy tx ty pe pl de dl ld sv : Int} (hx hy cp st en : Int) (h : tightB fx fy tx ty pe pl de dl ld sv = false) : aloneB fx fy tx ty pe pl de dl ld sv hx hy cp st en = false := by
  rw [tightB_no] at h
  rw [← Bool.not_eq_true, aloneB_iff]
  rintro ⟨a, b, c, d, e, f⟩
  apply h
  refine ⟨a, ?_⟩
  have h1 : pe ≤ tA fx fy tx ty pe pl de dl ld sv hx hy cp st en := by unfold tA; omega
  have h2 : tA fx fy tx ty pe pl de dl ld sv hx hy cp st en + apV fx fy tx ty pe pl de dl ld sv ≤ tB fx fy tx ty pe pl de dl ld sv hx hy cp st en := by unfold tB apV; omega
  omega

/-- The end of OrderTight. -/
theorem tight_least {fx fy tx ty pe pl de dl ld sv : Int} (h : tightB fx fy tx ty pe pl de dl ld sv = true) : tightL fx fy tx ty pe pl de dl ld sv + leastV fx fy tx ty pe (tightL fx fy tx ty pe pl de dl ld sv) (tightE fx fy tx ty pe pl de dl ld sv) dl ld sv - sv ≤ dl := by
  have h0 := tight_chk h
  unfold leastV
  rw [apV_same fx fy tx ty pe pl de dl ld sv]
  simp only [h0, decide_true, orNil_t]
  unfold tightL
  omega

/-- Who starts earlier, or has more room, or more time. -/
theorem early_serves {fx fy tx ty pe pl de dl ld sv hx hy cp st en cp2 st2 en2 : Int} (h : aloneB fx fy tx ty pe pl de dl ld sv hx hy cp st en = true) (h1 : st2 ≤ st) (h2 : 0 ≤ st2) (h3 : cp ≤ cp2) (h4 : cp2 ≤ 100000) (h5 : en ≤ en2) (h6 : en2 ≤ 1048576) :
    aloneB fx fy tx ty pe pl de dl ld sv hx hy cp2 st2 en2 = true ∧ tH fx fy tx ty pe pl de dl ld sv hx hy cp2 st2 en2 ≤ tH fx fy tx ty pe pl de dl ld sv hx hy cp st en := by
  rw [aloneB_iff] at h ⊢
  obtain ⟨a, b, c, d, e, f⟩ := h
  have b' := (veh_iff hx hy cp st en).1 b
  have e1 : tA fx fy tx ty pe pl de dl ld sv hx hy cp2 st2 en2 ≤ tA fx fy tx ty pe pl de dl ld sv hx hy cp st en := by unfold tA; omega
  have e2 : tB fx fy tx ty pe pl de dl ld sv hx hy cp2 st2 en2 ≤ tB fx fy tx ty pe pl de dl ld sv hx hy cp st en := by unfold tB; omega
  have e3 : tH fx fy tx ty pe pl de dl ld sv hx hy cp2 st2 en2 ≤ tH fx fy tx ty pe pl de dl ld sv hx hy cp st en := by unfold tH; omega
  refine ⟨⟨a, ?_, by omega, by omega, by omega, by omega⟩, e3⟩
  rw [veh_iff]
  exact ⟨b'.1, by omega, by omega, by omega⟩
theorem early_least {fx fy tx ty pe pl de dl ld sv hx hy cp st en : Int} (h : aloneB fx fy tx ty pe pl de dl ld sv hx hy cp st en = true) : st + leastV fx fy tx ty pe pl de dl ld sv ≤ tH fx fy tx ty pe pl de dl ld sv hx hy cp st en ∧ tH fx fy tx ty pe pl de dl ld sv hx hy cp st en ≤ en := by
  rw [aloneB_iff] at h
  obtain ⟨a, b, c, d, e, f⟩ := h
  have b' := (veh_iff hx hy cp st en).1 b
  have d1 := distV_bd (hx, hy) (fx, fy)
  have d2 := distV_bd (tx, ty) (hx, hy)
  refine ⟨?_, f⟩
  unfold leastV
  simp only [a, decide_true, orNil_t]
  unfold tH tB tA apV
  omega

/-- A number brought between two. -/
def btwV (n a b : Int) : Int := a + n % 18446744073709551616 % (b - a + 1)
theorem btwV_bd (n a b : Int) (h : a ≤ b) : a ≤ btwV n a b ∧ btwV n a b ≤ b := by
  unfold btwV
  have h1 := Int.emod_nonneg (n % 18446744073709551616) (show b - a + 1 ≠ 0 by omega)
  have h2 := Int.emod_lt_of_pos (n % 18446744073709551616) (show 0 < b - a + 1 by omega)
  omega

end Go.Proofs.YthjdacbgcpldjaaDoor.Order

/-
  Rows of stops, in plain Lean: which are routes, as one definition says it and as one walk tells it. No program is spoken of here.
-/
namespace Go.Proofs.YthjdacbgcpldjaaDoor.Route

/-- The stops of a request. -/
def ofR (r : Int) (l : List (Int × Int)) : List (Int × Int) := l.filter fun s => decide (s.1 = r)
/-- A row is a route. -/
def isR (l : List (Int × Int)) : Bool := l.all fun s => decide (0 ≤ s.1) && decide (ofR s.1 l = [(s.1, 0), (s.1, 1)])
def checkV (l : List (Int × Int)) : Int := if 16 < l.length then 11 else if isR l then 0 else 8
def picksL (l : List (Int × Int)) : List Int := (l.filter fun s => decide (s.2 = 0)).map fun s => s.1
def dropsN (l : List (Int × Int)) : Nat := (l.filter fun s => decide (s.2 = 1)).length
def reqsL (l : List (Int × Int)) : List Int := if decide (l.length ≤ 16) && isR l then picksL l else []
def cnt (s : Int × Int) (l : List (Int × Int)) : Nat := (l.filter fun x => decide (x = s)).length
def woL (r : Int) (l : List (Int × Int)) : List (Int × Int) := l.filter fun s => decide (s.1 ≠ r)

theorem isR_iff {l : List (Int × Int)} : isR l = true ↔ ∀ s ∈ l, 0 ≤ s.1 ∧ ofR s.1 l = [(s.1, 0), (s.1, 1)] := by
  unfold isR
  rw [List.all_eq_true]
  constructor
  · intro h s hs
    have := h s hs
    rw [Bool.and_eq_true, decide_eq_true_eq, decide_eq_true_eq] at this
    exact this
  · intro h s hs
    rw [Bool.and_eq_true, decide_eq_true_eq, decide_eq_true_eq]
    exact h s hs
theorem ofR_append (r : Int) (a b : List (Int × Int)) : ofR r (a ++ b) = ofR r a ++ ofR r b := List.filter_append ..
theorem ofR_cons_same {r : Int} {s : Int × Int} (h : s.1 = r) (a : List (Int × Int)) : ofR r (s :: a) = s :: ofR r a := by simp [ofR, h]
theorem ofR_cons_other {r : Int} {s : Int × Int} (h : s.1 ≠ r) (a : List (Int × Int)) : ofR r (s :: a) = ofR r a := by simp [ofR, h]
theorem mem_ofR {r : Int} {s : Int × Int} {l : List (Int × Int)} : s ∈ ofR r l ↔ s ∈ l ∧ s.1 = r := by simp [ofR]
theorem cnt_append (s : Int × Int) (a b : List (Int × Int)) : cnt s (a ++ b) = cnt s a + cnt s b := by simp [cnt]
theorem cnt_cons_same (s : Int × Int) (a : List (Int × Int)) : cnt s (s :: a) = cnt s a + 1 := by simp [cnt]
theorem cnt_cons_other {s x : Int × Int} (h : x ≠ s) (a : List (Int × Int)) : cnt s (x :: a) = cnt s a := by simp [cnt, h]
theorem cnt_pos {s : Int × Int} {l : List (Int × Int)} (h : s ∈ l) : 0 < cnt s l := by
  unfold cnt
  exact List.length_pos_of_mem (a := s) (by simp [h])
theorem mem_of_cnt {s : Int × Int} {l : List (Int × Int)} (h : 0 < cnt s l) : s ∈ l := by
  unfold cnt at h
  obtain ⟨x, hx⟩ := List.exists_mem_of_length_pos h
  rw [List.mem_filter, decide_eq_true_eq] at hx
  exact hx.2 ▸ hx.1
theorem cnt_ofR (s : Int × Int) (l : List (Int × Int)) : cnt s (ofR s.1 l) = cnt s l := by
  unfold cnt ofR
  rw [List.filter_filter]
  congr 1
  apply List.filter_congr
  intro x _
  by_cases h : x = s
  · simp [h]
  · simp [h]

/-! ### As one definition says it -/

def okAt (l pre : List (Int × Int)) (s : Int × Int) : Bool :=
  decide (0 ≤ s.1) && decide (0 ≤ s.2) && decide (s.2 < 2) && decide (cnt (s.1, 0) l = 1) && decide (cnt (s.1, 1) l = 1) && !(decide (s.2 = 1) && !decide (cnt (s.1, 0) pre = 1))
def okFrom (l : List (Int × Int)) : List (Int × Int) → List (Int × Int) → Bool
  | _, [] => true
  | pre, s :: rest => okAt l pre s && okFrom l (pre ++ [s]) rest

theorem okFrom_iff {l : List (Int × Int)} : ∀ {rest pre : List (Int × Int)}, okFrom l pre rest = true ↔ ∀ p s q, rest = p ++ s :: q → okAt l (pre ++ p) s = true
  | [], pre => by
    refine ⟨fun _ p s q h => ?_, fun _ => rfl⟩
    cases p <;> cases h
  | x :: rest, pre => by
    rw [okFrom, Bool.and_eq_true, okFrom_iff (rest := rest)]
    constructor
    · rintro ⟨h1, h2⟩ p s q h
      cases p with
      | nil =>
        simp only [List.nil_append, List.cons.injEq] at h
        obtain ⟨rfl, rfl⟩ := h
        rw [List.append_nil]
        exact h1
      | cons y p =>
        simp only [List.cons_append, List.cons.injEq] at h
        obtain ⟨rfl, rfl⟩ := h
        have := h2 p s q rfl
        rwa [List.append_assoc] at this
    · intro h
      refine ⟨by have := h [] x rest rfl; rwa [List.append_nil] at this, fun p s q e => ?_⟩
      have := h (x :: p) s q (by rw [e]; rfl)
      rwa [List.append_assoc]

theorem okAt_iff {l pre : List (Int × Int)} {s : Int × Int} : okAt l pre s = true ↔ 0 ≤ s.1 ∧ (s.2 = 0 ∨ s.2 = 1) ∧ cnt (s.1, 0) l = 1 ∧ cnt (s.1, 1) l = 1 ∧ (s.2 = 1 → cnt (s.1, 0) pre = 1) := by
  unfold okAt
  simp only [Bool.and_eq_true, decide_eq_true_eq, Bool.not_eq_true', Bool.and_eq_false_iff, decide_eq_false_iff_not, Bool.not_eq_false']
  constructor
  · rintro ⟨⟨⟨⟨⟨h1, h2⟩, h3⟩, h4⟩, h5⟩, h6⟩
    refine ⟨h1, by omega, h4, h5, fun h => ?_⟩
    rcases h6 with h6 | h6
    · exact absurd h h6
    · exact h6
  · rintro ⟨h1, h2, h3, h4, h5⟩
    refine ⟨⟨⟨⟨⟨h1, by omega⟩, by omega⟩, h3⟩, h4⟩, ?_⟩
    rcases h2 with h2 | h2
    · exact .inl (by omega)
    · exact .inr (h5 h2)

theorem two_of {a b : Int × Int} (hab : a ≠ b) : ∀ {f : List (Int × Int)}, (∀ x ∈ f, x = a ∨ x = b) → cnt a f = 1 → cnt b f = 1 → f = [a, b] ∨ f = [b, a]
  | [], _, h, _ => by simp [cnt] at h
  | x :: f, hm, h1, h2 => by
    have hone : ∀ {c d : Int × Int}, (∀ x ∈ f, x = d ∨ x = c) → cnt d f = 0 → cnt c f = 1 → f = [c] := by
      intro c d hx hd hc
      have hall : ∀ x ∈ f, x = c := fun x hx' => by
        rcases hx x hx' with rfl | h
        · have := cnt_pos hx'; omega
        · exact h
      have hl : f.length = 1 := by
        rw [← hc]
        unfold cnt
        rw [List.filter_eq_self.2]
        intro y hy
        simp [hall y hy]
      match f, hl with
      | [y], _ => rw [hall y (by simp)]
    rcases hm x (List.mem_cons_self ..) with rfl | rfl
    · rw [cnt_cons_same] at h1
      rw [cnt_cons_other hab] at h2
      exact .inl (by rw [hone (fun y hy => hm y (List.mem_cons_of_mem _ hy)) (by omega) h2])
    · rw [cnt_cons_same] at h2
      rw [cnt_cons_other (Ne.symm hab)] at h1
      exact .inr (by rw [hone (fun y hy => (hm y (List.mem_cons_of_mem _ hy)).symm) (by omega) h1])

theorem split3 {r : Int} {l p q : List (Int × Int)} {s : Int × Int} (hl : l = p ++ s :: q) (hs : s.1 = r) (h : ofR r l = [(r, 0), (r, 1)]) : (s = (r, 0) ∧ ofR r p = [] ∧ ofR r q = [(r, 1)]) ∨ (s = (r, 1) ∧ ofR r p = [(r, 0)] ∧ ofR r q = []) := by
  rw [hl, ofR_append, ofR_cons_same hs] at h
  match hp : ofR r p, h with
  | [], h =>
    simp only [List.nil_append, List.cons.injEq] at h
    exact .inl ⟨h.1, rfl, h.2⟩
  | [a], h =>
    simp only [List.cons_append, List.nil_append, List.cons.injEq] at h
    exact .inr ⟨h.2.1, by rw [h.1], h.2.2⟩
  | a :: b :: c, h =>
    simp at h

theorem okFrom_isR (l : List (Int × Int)) : okFrom l [] l = isR l := by
  rw [Bool.eq_iff_iff, okFrom_iff, isR_iff]
  constructor
  · intro h s hs
    have hall : ∀ x ∈ l, 0 ≤ x.1 ∧ (x.2 = 0 ∨ x.2 = 1) ∧ cnt (x.1, 0) l = 1 ∧ cnt (x.1, 1) l = 1 := by
      intro x hx
      obtain ⟨p, q, e⟩ := List.append_of_mem hx
      have := okAt_iff.1 (h p x q e)
      exact ⟨this.1, this.2.1, this.2.2.1, this.2.2.2.1⟩
    obtain ⟨h1, h2, h3, h4⟩ := hall s hs
    refine ⟨h1, ?_⟩
    have hne : ((s.1, 0) : Int × Int) ≠ (s.1, 1) := by simp
    rcases two_of hne (f := ofR s.1 l) (fun x hx => by
      rw [mem_ofR] at hx
      obtain ⟨_, hk, _⟩ := hall x hx.1
      rcases hk with hk | hk
      · exact .inl (Prod.ext hx.2 hk)
      · exact .inr (Prod.ext hx.2 hk)) (by have := cnt_ofR (s.1, 0) l; rw [h3] at this; exact this) (by have := cnt_ofR (s.1, 1) l; rw [h4] at this; exact this) with h5 | h5
    · exact h5
    · exfalso
      have h6 : l.filter (fun x => decide (x.1 = s.1)) = (s.1, 1) :: [(s.1, 0)] := h5
      rw [List.filter_eq_cons_iff] at h6
      obtain ⟨p, q, e, hp, _, _⟩ := h6
      have h7 := (okAt_iff.1 (h p (s.1, 1) q e)).2.2.2.2 rfl
      have h8 := mem_of_cnt (s := (s.1, 0)) (l := p) (by rw [List.nil_append] at h7; simp only at h7; omega)
      exact hp _ h8 (by simp)
  · intro h p s q e
    have hs : s ∈ l := by rw [e]; simp
    obtain ⟨h1, h2⟩ := h s hs
    have e0 : cnt (s.1, 0) l = 1 := by rw [← cnt_ofR (s.1, 0) l]; simp only; rw [h2]; simp [cnt]
    have e1 : cnt (s.1, 1) l = 1 := by rw [← cnt_ofR (s.1, 1) l]; simp only; rw [h2]; simp [cnt]
    rw [okAt_iff, List.nil_append]
    rcases split3 e rfl h2 with ⟨h3, h4, _⟩ | ⟨h3, h4, _⟩
    · have h5 : s.2 = 0 := by rw [h3]
      exact ⟨h1, .inl h5, e0, e1, fun h => by omega⟩
    · have h5 : s.2 = 1 := by rw [h3]
      refine ⟨h1, .inr h5, e0, e1, fun _ => ?_⟩
      rw [← cnt_ofR (s.1, 0) p]
      simp only
      rw [h4]
      simp [cnt]

/-! ### As one walk tells it -/

def okS (pre : List (Int × Int)) (s : Int × Int) : Bool := decide (0 ≤ s.1) && decide (s.2 = (ofR s.1 pre).length)
/-- How far the walk comes. -/
def scan : List (Int × Int) → List (Int × Int) → List (Int × Int)
  | pre, [] => pre
  | pre, s :: rest => if okS pre s then scan (pre ++ [s]) rest else pre
inductive Steps : List (Int × Int) → Prop
  | nil : Steps []
  | snoc {q : List (Int × Int)} {s : Int × Int} : Steps q → okS q s = true → Steps (q ++ [s])

theorem scan_steps : ∀ {rest pre : List (Int × Int)}, Steps pre → Steps (scan pre rest) ∧ ∃ t, pre ++ rest = scan pre rest ++ t
  | [], pre, h => ⟨h, [], by simp [scan]⟩
  | s :: rest, pre, h => by
    unfold scan
    split
    · rename_i hs
      obtain ⟨h1, t, h2⟩ := scan_steps (rest := rest) (Steps.snoc h hs)
      exact ⟨h1, t, by rw [← h2]; simp⟩
    · exact ⟨h, s :: rest, rfl⟩
theorem scan_all : ∀ {rest pre : List (Int × Int)}, (∀ p s q, rest = p ++ s :: q → okS (pre ++ p) s = true) → scan pre rest = pre ++ rest
  | [], pre, h => by simp [scan]
  | s :: rest, pre, h => by
    have h1 : okS pre s = true := by have := h [] s rest rfl; rwa [List.append_nil] at this
    rw [scan, if_pos h1, scan_all (rest := rest)]
    · simp
    · intro p x q e
      have := h (s :: p) x q (by rw [e]; rfl)
      rwa [List.append_assoc]

def rangeL (r : Int) (n : Nat) : List (Int × Int) := (List.range n).map fun (k : Nat) => (r, (k : Int))
theorem steps_of {q : List (Int × Int)} (h : Steps q) (r : Int) : ofR r q = rangeL r (ofR r q).length := by
  induction h with
  | nil => rfl
  | @snoc q s _ hs ih =>
    rw [ofR_append]
    by_cases hr : s.1 = r
    · rw [ofR_cons_same hr, List.length_append]
      simp only [List.length_cons, okS, Bool.and_eq_true, decide_eq_true_eq] at hs ⊢
      have e : s = (r, ((ofR r q).length : Int)) := Prod.ext hr (by rw [← hr]; exact hs.2)
      simp only [ofR, List.filter_nil, List.length_nil, Nat.zero_add]
      rw [rangeL, List.range_succ, List.map_append, ← rangeL]
      simp only [List.map_cons, List.map_nil]
      have ih' : List.filter (fun s => decide (s.1 = r)) q = rangeL r (List.filter (fun s => decide (s.1 = r)) q).length := ih
      rw [← ih']
      exact congrArg (fun x => List.filter (fun s => decide (s.1 = r)) q ++ [x]) e
    · rw [ofR_cons_other hr]
      simpa [ofR] using ih

def othersN (l : List (Int × Int)) : Nat := (l.filter fun s => !decide (s.2 = 0) && !decide (s.2 = 1)).length

theorem steps_count {q : List (Int × Int)} (h : Steps q) : ∃ os : List Int, os.Nodup ∧ (∀ r, r ∈ os ↔ (ofR r q).length = 1) ∧ q.length = 2 * dropsN q + os.length + othersN q := by
  induction h with
  | nil => exact ⟨[], List.nodup_nil, fun r => by simp [ofR], by simp [dropsN, othersN]⟩
  | @snoc q s hq hs ih =>
    obtain ⟨os, hn, hm, hl⟩ := ih
    simp only [okS, Bool.and_eq_true, decide_eq_true_eq] at hs
    have hsame : ∀ r, s.1 ≠ r → ofR r (q ++ [s]) = ofR r q := fun r hr => by rw [ofR_append, ofR_cons_other hr]; simp [ofR]
    have hown : (ofR s.1 (q ++ [s])).length = (ofR s.1 q).length + 1 := by rw [ofR_append, ofR_cons_same rfl]; simp [ofR]
    by_cases h0 : s.2 = 0
    · refine ⟨s.1 :: os, List.nodup_cons.2 ⟨fun hi => ?_, hn⟩, fun r => ?_, ?_⟩
      · have := (hm _).1 hi; omega
      · by_cases hr : s.1 = r
        · subst hr
          rw [hown]
          exact ⟨fun _ => by omega, fun _ => List.mem_cons_self ..⟩
        · rw [hsame r hr, List.mem_cons, hm]
          constructor
          · rintro (h | h)
            · exact absurd h.symm hr
            · exact h
          · exact .inr
      · simp only [List.length_append, List.length_cons, List.length_nil, dropsN, othersN, List.filter_append] at hl ⊢
        simp [h0]
        omega
    · by_cases h1 : s.2 = 1
      · have hi : s.1 ∈ os := (hm _).2 (by omega)
        refine ⟨os.erase s.1, hn.erase _, fun r => ?_, ?_⟩
        · by_cases hr : s.1 = r
          · subst hr
            rw [hown, hn.mem_erase_iff]
            exact ⟨fun h => absurd rfl h.1, fun h => by omega⟩
          · rw [hsame r hr, hn.mem_erase_iff, hm]
            exact ⟨fun h => h.2, fun h => ⟨fun e => hr e.symm, h⟩⟩
        · have := List.length_erase_of_mem hi
          have hp := List.length_pos_of_mem hi
          simp only [List.length_append, List.length_cons, List.length_nil, dropsN, othersN, List.filter_append] at hl ⊢
          simp [h1]
          omega
      · refine ⟨os, hn, fun r => ?_, ?_⟩
        · by_cases hr : s.1 = r
          · subst hr
            rw [hown, hm]
            omega
          · rw [hsame r hr, hm]
        · simp only [List.length_append, List.length_cons, List.length_nil, dropsN, othersN, List.filter_append] at hl ⊢
          simp [h0, h1]
          omega

theorem steps_nonneg {q : List (Int × Int)} (h : Steps q) : ∀ s ∈ q, 0 ≤ s.1 := by
  induction h with
  | nil => intro s hs; cases hs
  | @snoc q s _ hs ih =>
    intro x hx
    rcases List.mem_append.1 hx with hx | hx
    · exact ih x hx
    · rw [List.mem_singleton.1 hx]
      simp only [okS, Bool.and_eq_true, decide_eq_true_eq] at hs
      exact hs.1

/-- What the walk tells: all was dropped, just if it is a route; then it went all along. -/
theorem scan_isR (l : List (Int × Int)) : (dropsN (scan [] l) * 2 = l.length ↔ isR l = true) ∧ (isR l = true → scan [] l = l) := by
  have key : isR l = true → scan [] l = l ∧ dropsN l * 2 = l.length := by
    intro h
    rw [isR_iff] at h
    have e : scan [] l = l := by
      have := scan_all (rest := l) (pre := []) (fun p s q e => by
        have hs : s ∈ l := by rw [e]; simp
        obtain ⟨h1, h2⟩ := h s hs
        simp only [okS, Bool.and_eq_true, decide_eq_true_eq, List.nil_append]
        refine ⟨h1, ?_⟩
        rcases split3 e rfl h2 with ⟨h3, h4, _⟩ | ⟨h3, h4, _⟩
        · rw [h4, h3]; rfl
        · rw [h4, h3]; rfl)
      simpa using this
    refine ⟨e, ?_⟩
    have hst := (scan_steps (rest := l) Steps.nil).1
    rw [e] at hst
    obtain ⟨os, hn, hm, hl⟩ := steps_count hst
    have hos : os = [] := by
      match os, hm with
      | [], _ => rfl
      | r :: os, hm =>
        have h1 := (hm r).1 (List.mem_cons_self ..)
        obtain ⟨s, hs⟩ := List.exists_mem_of_length_pos (show 0 < (ofR r l).length by omega)
        rw [mem_ofR] at hs
        have h2 := (h s hs.1).2
        rw [hs.2] at h2
        rw [h2] at h1
        simp at h1
    have hoth : othersN l = 0 := by
      unfold othersN
      rw [List.length_eq_zero_iff, List.filter_eq_nil_iff]
      intro s hs
      have h2 := (h s hs).2
      have h3 : s ∈ ofR s.1 l := mem_ofR.2 ⟨hs, rfl⟩
      rw [h2] at h3
      simp only [List.mem_cons, List.not_mem_nil, or_false] at h3
      rcases h3 with h3 | h3 <;> rw [h3] <;> simp
    rw [hos, hoth] at hl
    simp at hl
    omega
  refine ⟨⟨fun hd => ?_, fun h => ?_⟩, fun h => (key h).1⟩
  · obtain ⟨hst, t, ht⟩ := scan_steps (rest := l) Steps.nil
    rw [List.nil_append] at ht
    obtain ⟨os, hn, hm, hl⟩ := steps_count hst
    have hlen := congrArg List.length ht
    rw [List.length_append] at hlen
    have hos : os.length = 0 := by omega
    have hoth : othersN (scan [] l) = 0 := by omega
    have ht0 : t = [] := List.eq_nil_of_length_eq_zero (by omega)
    have e : l = scan [] l := by rw [ht0, List.append_nil] at ht; exact ht
    rw [← e] at hst hm hoth
    obtain rfl : os = [] := List.eq_nil_of_length_eq_zero hos
    rw [isR_iff]
    intro s hs
    refine ⟨steps_nonneg hst s hs, ?_⟩
    have h1 := steps_of hst s.1
    have h2 : s ∈ ofR s.1 l := mem_ofR.2 ⟨hs, rfl⟩
    have h3 := List.length_pos_of_mem h2
    have h4 : (ofR s.1 l).length ≠ 1 := fun h => by have := (hm s.1).2 h; cases this
    have h5 : ¬ 3 ≤ (ofR s.1 l).length := by
      intro h
      have h6 : ((s.1, 2) : Int × Int) ∈ ofR s.1 l := by
        rw [h1, rangeL, List.mem_map]
        exact ⟨2, by rw [List.mem_range]; omega, rfl⟩
      unfold othersN at hoth
      rw [List.length_eq_zero_iff, List.filter_eq_nil_iff] at hoth
      exact hoth _ (mem_ofR.1 h6).1 (by simp)
    have h7 : (ofR s.1 l).length = 2 := by omega
    exact h1.trans (by rw [h7]; rfl)
  · rw [(key h).1]; exact (key h).2

end Go.Proofs.YthjdacbgcpldjaaDoor.Route

/-
  Rows of stops with a request more, and without one; where one stands. No program is spoken of here.
-/
namespace Go.Proofs.YthjdacbgcpldjaaDoor.Route

def putL (l : List (Int × Int)) (k : Nat) (s : Int × Int) : List (Int × Int) := l.take k ++ s :: l.drop k
def withL (l : List (Int × Int)) (r : Int) (i j : Nat) : List (Int × Int) := l.take i ++ (r, 0) :: ((l.take j).drop i ++ (r, 1) :: l.drop j)
def noR (r : Int) (l : List (Int × Int)) : Bool := l.all fun s => decide (s.1 ≠ r)
def mayW (l : List (Int × Int)) (r i j : Int) : Bool := decide (0 ≤ i) && decide (i ≤ j) && decide (j ≤ l.length) && decide (0 ≤ r) && decide (l.length + 2 ≤ 16) && noR r l
def withV (l : List (Int × Int)) (r i j : Int) : List (Int × Int) := if mayW l r i j then withL l r i.toNat j.toNat else []

theorem noR_iff {r : Int} {l : List (Int × Int)} : noR r l = true ↔ ∀ s ∈ l, s.1 ≠ r := by simp [noR]
theorem noR_ofR {r : Int} {l : List (Int × Int)} : noR r l = true ↔ ofR r l = [] := by
  rw [noR_iff]
  unfold ofR
  rw [List.filter_eq_nil_iff]
  simp
theorem mayW_iff {l : List (Int × Int)} {r i j : Int} : mayW l r i j = true ↔ 0 ≤ i ∧ i ≤ j ∧ j ≤ l.length ∧ 0 ≤ r ∧ l.length + 2 ≤ 16 ∧ noR r l = true := by
  unfold mayW
  simp only [Bool.and_eq_true, decide_eq_true_eq]
  constructor
  · rintro ⟨⟨⟨⟨⟨a, b⟩, c⟩, d⟩, e⟩, f⟩; exact ⟨a, b, c, d, e, f⟩
  · rintro ⟨a, b, c, d, e, f⟩; exact ⟨⟨⟨⟨⟨a, b⟩, c⟩, d⟩, e⟩, f⟩
theorem putL_length (l : List (Int × Int)) (k : Nat) (s : Int × Int) : (putL l k s).length = l.length + 1 := by
  have := congrArg List.length (List.take_append_drop k l)
  simp only [List.length_append] at this
  simp only [putL, List.length_append, List.length_cons]
  omega
theorem put_put {l : List (Int × Int)} {i j : Nat} (hij : i ≤ j) (hj : j ≤ l.length) (r : Int) : putL (putL l j (r, 1)) i (r, 0) = withL l r i j := by
  have h1 : (l.take j).length = j := by simp; omega
  unfold putL withL
  rw [List.take_append_of_le_length (by omega), List.drop_append_of_le_length (by omega), List.take_take, Nat.min_eq_left hij]
theorem withL_length {l : List (Int × Int)} {i j : Nat} (hij : i ≤ j) (hj : j ≤ l.length) (r : Int) : (withL l r i j).length = l.length + 2 := by
  rw [← put_put hij hj, putL_length, putL_length]
/-- A row in three parts, with a request more. -/
theorem withL_parts (a b c : List (Int × Int)) (r : Int) : withL (a ++ b ++ c) r a.length (a.length + b.length) = a ++ (r, 0) :: (b ++ (r, 1) :: c) := by
  unfold withL
  have h1 : (a ++ b ++ c).take a.length = a := by rw [List.append_assoc]; simp
  have h2 : (a ++ b ++ c).take (a.length + b.length) = a ++ b := by rw [← List.length_append]; exact List.take_left
  have h3 : (a ++ b ++ c).drop (a.length + b.length) = c := by rw [← List.length_append]; exact List.drop_left
  rw [h1, h2, h3]
  simp
theorem parts {l : List (Int × Int)} {i j : Nat} (hij : i ≤ j) (hj : j ≤ l.length) : ∃ a b c, l = a ++ b ++ c ∧ a.length = i ∧ a.length + b.length = j := by
  refine ⟨l.take i, (l.take j).drop i, l.drop j, ?_, by simp; omega, by simp; omega⟩
  have : (l.take j).take i ++ (l.take j).drop i = l.take j := List.take_append_drop i (l.take j)
  rw [List.take_take, Nat.min_eq_left hij] at this
  rw [this, List.take_append_drop]

/-! ### The document's loop -/

def partL (l : List (Int × Int)) (r : Int) (i j k : Nat) : List (Int × Int) :=
  if k ≤ i then l.take k else if k ≤ j then l.take i ++ (r, 0) :: (l.take k).drop i else l.take i ++ (r, 0) :: ((l.take j).drop i ++ (r, 1) :: (l.take k).drop j)
def oneIf (b : Bool) (s : Int × Int) : List (Int × Int) := if b then [s] else []

theorem dropTake {l : List (Int × Int)} {i k : Nat} (hik : i ≤ k) (hi : i ≤ l.length) (x : List (Int × Int)) : (l.take k ++ x).drop i = (l.take k).drop i ++ x := by
  rw [List.drop_append_of_le_length (by simp; omega)]
theorem partL_zero (l : List (Int × Int)) (r : Int) (i j : Nat) : partL l r i j 0 = [] := by simp [partL]
theorem partL_last {l : List (Int × Int)} {i j : Nat} (hij : i ≤ j) (hj : j ≤ l.length) (r : Int) : partL l r i j (l.length + 1) = withL l r i j := by
  unfold partL withL
  rw [if_neg (by omega), if_neg (by omega), List.take_of_length_le (Nat.le_succ _)]
theorem partL_a (l : List (Int × Int)) (r : Int) {i j k : Nat} (h : k ≤ i) : partL l r i j k = l.take k := by unfold partL; rw [if_pos h]
theorem partL_b (l : List (Int × Int)) (r : Int) {i j k : Nat} (h : i < k) (h2 : k ≤ j) : partL l r i j k = l.take i ++ (r, 0) :: (l.take k).drop i := by unfold partL; rw [if_neg (by omega), if_pos h2]
theorem partL_c (l : List (Int × Int)) (r : Int) {i j k : Nat} (h : i < k) (h2 : j < k) : partL l r i j k = l.take i ++ (r, 0) :: ((l.take j).drop i ++ (r, 1) :: (l.take k).drop j) := by unfold partL; rw [if_neg (by omega), if_neg (by omega)]
theorem oneIf_no {b : Bool} (h : b = false) (s : Int × Int) : oneIf b s = [] := by rw [h]; rfl
theorem oneIf_yes {b : Bool} (h : b = true) (s : Int × Int) : oneIf b s = [s] := by rw [h]; rfl
theorem drop_take_self (l : List (Int × Int)) (k : Nat) : (l.take k).drop k = [] := List.drop_eq_nil_of_le (by simp; omega)
theorem partL_succ {l : List (Int × Int)} {i j : Nat} (hij : i ≤ j) (hj : j ≤ l.length) (r : Int) (k : Nat) :
    partL l r i j (k + 1) = partL l r i j k ++ oneIf (decide (k = i)) (r, 0) ++ oneIf (decide (k = j)) (r, 1) ++ l[k]?.toList := by
  rcases Nat.lt_trichotomy k i with h | h | h
  · rw [partL_a l r (show k + 1 ≤ i by omega), partL_a l r (show k ≤ i by omega), oneIf_no (by simp; omega), oneIf_no (by simp; omega), List.take_add_one]
    simp
  · subst h
    rw [partL_a l r (Nat.le_refl k), oneIf_yes (by simp)]
    rcases Nat.lt_or_ge k j with h2 | h2
    · rw [partL_b l r (show k < k + 1 by omega) (show k + 1 ≤ j by omega), oneIf_no (by simp; omega), List.take_add_one, dropTake (Nat.le_refl _) (by omega), drop_take_self]
      simp
    · obtain rfl : j = k := by omega
      rw [partL_c l r (show j < j + 1 by omega) (show j < j + 1 by omega), oneIf_yes (by simp), List.take_add_one, dropTake (Nat.le_refl _) (by omega), drop_take_self]
      simp
  · rw [oneIf_no (show decide (k = i) = false by simp; omega)]
    rcases Nat.lt_trichotomy k j with h2 | h2 | h2
    · rw [partL_b l r (show i < k + 1 by omega) (show k + 1 ≤ j by omega), partL_b l r h (show k ≤ j by omega), oneIf_no (by simp; omega), List.take_add_one, dropTake (by omega) (by omega)]
      simp
    · subst h2
      rw [partL_c l r (show i < k + 1 by omega) (show k < k + 1 by omega), partL_b l r h (Nat.le_refl _), oneIf_yes (by simp), List.take_add_one, dropTake (Nat.le_refl _) (by omega), drop_take_self]
      simp
    · rw [partL_c l r (show i < k + 1 by omega) (show j < k + 1 by omega), partL_c l r h h2, oneIf_no (by simp; omega), List.take_add_one, dropTake (by omega) (by omega)]
      simp
theorem partL_length {l : List (Int × Int)} {i j : Nat} (hij : i ≤ j) (hj : j ≤ l.length) (r : Int) : ∀ k, (partL l r i j k).length ≤ k + 2
  | k => by
    unfold partL
    split
    · simp; omega
    · split
      · simp; omega
      · simp; omega

/-! ### Where a stop stands -/

def ixF (s : Int × Int) : Nat → List (Int × Int) → Int
  | _, [] => -1
  | k, x :: xs => if x = s then (k : Int) else ixF s (k + 1) xs
def ixV (s : Int × Int) (l : List (Int × Int)) : Int := ixF s 0 l
theorem ixF_yes {s x : Int × Int} (h : x = s) (k : Nat) (xs : List (Int × Int)) : ixF s k (x :: xs) = k := by rw [ixF, if_pos h]
theorem ixF_no {s x : Int × Int} (h : x ≠ s) (k : Nat) (xs : List (Int × Int)) : ixF s k (x :: xs) = ixF s (k + 1) xs := by rw [ixF, if_neg h]
theorem ixF_at {s : Int × Int} : ∀ {p : List (Int × Int)} {q : List (Int × Int)} {k : Nat}, (∀ x ∈ p, x ≠ s) → ixF s k (p ++ s :: q) = k + p.length
  | [], q, k, _ => by rw [List.nil_append, ixF_yes rfl]; simp
  | x :: p, q, k, h => by
    rw [List.cons_append, ixF_no (h x (List.mem_cons_self ..)), ixF_at (fun y hy => h y (List.mem_cons_of_mem _ hy))]
    simp only [List.length_cons]
    omega
theorem ixF_bd {s : Int × Int} : ∀ {l : List (Int × Int)} {k : Nat}, -1 ≤ ixF s k l ∧ ixF s k l ≤ k + l.length
  | [], k => by simp [ixF]
  | x :: l, k => by
    rw [ixF]
    split
    · simp only [List.length_cons]; omega
    · have := ixF_bd (s := s) (l := l) (k := k + 1)
      simp only [List.length_cons]
      omega

/-! ### What follows -/

theorem wo_append (r : Int) (a b : List (Int × Int)) : woL r (a ++ b) = woL r a ++ woL r b := List.filter_append ..
theorem wo_self {r : Int} {l : List (Int × Int)} (h : noR r l = true) : woL r l = l := by
  rw [noR_iff] at h
  exact List.filter_eq_self.2 fun s hs => by simpa using h s hs
theorem wo_own (r k : Int) (a : List (Int × Int)) : woL r ((r, k) :: a) = woL r a := by simp [woL]
theorem wo_length (r : Int) (l : List (Int × Int)) : (woL r l).length ≤ l.length := List.length_filter_le ..
theorem wo_less {r : Int} {l : List (Int × Int)} : (woL r l).length < l.length ↔ noR r l = false := by
  have h1 := wo_length r l
  constructor
  · intro h
    cases hn : noR r l
    · rfl
    · rw [wo_self hn] at h; omega
  · intro h
    have h2 : ¬ (woL r l).length = l.length := by
      intro e
      unfold woL at e
      have h3 := List.filter_eq_self.1 (List.Sublist.eq_of_length List.filter_sublist e)
      have : noR r l = true := by rw [noR_iff]; intro s hs; simpa using h3 s hs
      rw [h] at this; cases this
    omega
theorem noR_append {r : Int} {a b : List (Int × Int)} : noR r (a ++ b) = true ↔ noR r a = true ∧ noR r b = true := by simp [noR]
theorem ofR_wo {r q : Int} (h : q ≠ r) (l : List (Int × Int)) : ofR q (woL r l) = ofR q l := by
  unfold ofR woL
  rw [List.filter_filter]
  apply List.filter_congr
  intro x _
  by_cases hx : x.1 = q
  · simp [hx, h]
  · simp [hx]
theorem of_wo_length (r : Int) (l : List (Int × Int)) : (ofR r l).length + (woL r l).length = l.length := by
  induction l with
  | nil => rfl
  | cons s l ih =>
    by_cases h : s.1 = r
    · simp only [ofR, woL] at ih ⊢
      simp [h]
      simp at ih
      omega
    · simp only [ofR, woL] at ih ⊢
      simp [h]
      simp at ih
      omega

/-- A route's request, and what stands around it. -/
theorem route_parts {l : List (Int × Int)} (h : isR l = true) {s : Int × Int} (hs : s ∈ l) : 0 ≤ s.1 ∧ ∃ a b c, l = a ++ (s.1, 0) :: (b ++ (s.1, 1) :: c) ∧ noR s.1 (a ++ b ++ c) = true := by
  obtain ⟨h0, h1⟩ := isR_iff.1 h s hs
  refine ⟨h0, ?_⟩
  have h2 : l.filter (fun x => decide (x.1 = s.1)) = (s.1, 0) :: [(s.1, 1)] := h1
  rw [List.filter_eq_cons_iff] at h2
  obtain ⟨a, l2, rfl, ha, _, h3⟩ := h2
  rw [List.filter_eq_cons_iff] at h3
  obtain ⟨b, c, rfl, hb, _, hc⟩ := h3
  rw [List.filter_eq_nil_iff] at hc
  refine ⟨a, b, c, rfl, ?_⟩
  rw [noR_append, noR_append]
  refine ⟨⟨noR_iff.2 fun x hx => by simpa using ha x hx, noR_iff.2 fun x hx => by simpa using hb x hx⟩, noR_iff.2 fun x hx => by simpa using hc x hx⟩

theorem with_ofR_own {r : Int} (a b c : List (Int × Int)) (h : noR r (a ++ b ++ c) = true) : ofR r (a ++ (r, 0) :: (b ++ (r, 1) :: c)) = [(r, 0), (r, 1)] := by
  rw [noR_append, noR_append] at h
  rw [ofR_append, ofR_cons_same (s := (r, 0)) rfl, ofR_append, ofR_cons_same (s := (r, 1)) rfl, noR_ofR.1 h.1.1, noR_ofR.1 h.1.2, noR_ofR.1 h.2]
  rfl
theorem with_ofR_other {r q : Int} (hq : r ≠ q) (a b c : List (Int × Int)) : ofR q (a ++ (r, 0) :: (b ++ (r, 1) :: c)) = ofR q (a ++ b ++ c) := by
  rw [ofR_append, ofR_cons_other hq, ofR_append, ofR_cons_other hq, ofR_append, ofR_append, List.append_assoc]

/-- A route with a request more. -/
theorem isR_with {l : List (Int × Int)} {r i j : Int} (hm : mayW l r i j = true) (h : isR l = true) : isR (withL l r i.toNat j.toNat) = true := by
  obtain ⟨h1, h2, h3, h4, h5, h6⟩ := mayW_iff.1 hm
  obtain ⟨a, b, c, rfl, ha, hb⟩ := parts (l := l) (i := i.toNat) (j := j.toNat) (by omega) (by omega)
  rw [← ha, ← hb, withL_parts, isR_iff]
  intro s hs
  by_cases hr : r = s.1
  · rw [← hr]
    exact ⟨h4, with_ofR_own a b c h6⟩
  · rw [with_ofR_other hr]
    have hs' : s ∈ a ++ b ++ c := by
      simp only [List.mem_append, List.mem_cons] at hs ⊢
      rcases hs with hs | rfl | hs | rfl | hs
      · exact .inl (.inl hs)
      · exact absurd rfl hr
      · exact .inl (.inr hs)
      · exact absurd rfl hr
      · exact .inr hs
    exact isR_iff.1 h s hs'
theorem wo_with {l : List (Int × Int)} {r i j : Int} (hm : mayW l r i j = true) : woL r (withL l r i.toNat j.toNat) = l := by
  obtain ⟨h1, h2, h3, h4, h5, h6⟩ := mayW_iff.1 hm
  obtain ⟨a, b, c, rfl, ha, hb⟩ := parts (l := l) (i := i.toNat) (j := j.toNat) (by omega) (by omega)
  rw [← ha, ← hb, withL_parts, wo_append, wo_own, wo_append, wo_own]
  rw [noR_append, noR_append] at h6
  rw [wo_self h6.1.1, wo_self h6.1.2, wo_self h6.2, List.append_assoc]
theorem ix_parts (a b c : List (Int × Int)) {r : Int} (h : noR r (a ++ b ++ c) = true) : ixV (r, 0) (a ++ (r, 0) :: (b ++ (r, 1) :: c)) = a.length ∧ ixV (r, 1) (a ++ (r, 0) :: (b ++ (r, 1) :: c)) = (a.length + b.length + 1 : Nat) := by
  rw [noR_append, noR_append, noR_iff, noR_iff] at h
  refine ⟨?_, ?_⟩
  · unfold ixV
    rw [ixF_at (fun x hx e => h.1.1 x hx (by rw [e]))]
    simp
  · have e : a ++ (r, 0) :: (b ++ (r, 1) :: c) = (a ++ (r, 0) :: b) ++ (r, 1) :: c := by simp
    unfold ixV
    rw [e, ixF_at]
    · simp; omega
    · intro x hx
      simp only [List.mem_append, List.mem_cons] at hx
      rcases hx with hx | rfl | hx
      · exact fun e => h.1.1 x hx (by rw [e])
      · simp
      · exact fun e => h.1.2 x hx (by rw [e])
theorem ix_with {l : List (Int × Int)} {r i j : Int} (hm : mayW l r i j = true) : ixV (r, 0) (withL l r i.toNat j.toNat) = i ∧ ixV (r, 1) (withL l r i.toNat j.toNat) = j + 1 := by
  obtain ⟨h1, h2, h3, h4, h5, h6⟩ := mayW_iff.1 hm
  obtain ⟨a, b, c, rfl, ha, hb⟩ := parts (l := l) (i := i.toNat) (j := j.toNat) (by omega) (by omega)
  rw [← ha, ← hb, withL_parts]
  have := ix_parts a b c h6
  rw [this.1, this.2]
  omega
theorem drops_half {l : List (Int × Int)} (h : isR l = true) : dropsN l * 2 = l.length := by
  have h1 := (scan_isR l).1.2 h
  rwa [(scan_isR l).2 h] at h1
theorem picks_half {l : List (Int × Int)} (h : isR l = true) : (picksL l).length * 2 = l.length := by
  have hk : ∀ s ∈ l, s.2 = 0 ∨ s.2 = 1 := by
    intro s hs
    have h2 := (isR_iff.1 h s hs).2
    have h3 : s ∈ ofR s.1 l := mem_ofR.2 ⟨hs, rfl⟩
    rw [h2] at h3
    simp only [List.mem_cons, List.not_mem_nil, or_false] at h3
    rcases h3 with h3 | h3 <;> rw [h3] <;> simp
  have h1 := drops_half h
  have h2 : ∀ m : List (Int × Int), (∀ s ∈ m, s.2 = 0 ∨ s.2 = 1) → (picksL m).length + dropsN m = m.length := by
    intro m
    induction m with
    | nil => intro _; rfl
    | cons s m ih =>
      intro hm
      have ih := ih fun x hx => hm x (List.mem_cons_of_mem _ hx)
      simp only [picksL, dropsN, List.length_map] at ih ⊢
      rcases hm s (List.mem_cons_self ..) with h | h
      · simp [h]; omega
      · simp [h]; omega
  have := h2 l hk
  omega

/-- Without a request, and with it again. -/
theorem back {l : List (Int × Int)} (h : isR l = true) {s : Int × Int} (hs : s ∈ l) (hl : l.length ≤ 16) :
    isR (woL s.1 l) = true ∧ (woL s.1 l).length + 2 = l.length ∧ mayW (woL s.1 l) s.1 (ixV (s.1, 0) l) (ixV (s.1, 1) l - 1) = true ∧ withV (woL s.1 l) s.1 (ixV (s.1, 0) l) (ixV (s.1, 1) l - 1) = l := by
  have hr := isR_iff.1 h
  have hlen := of_wo_length s.1 l
  rw [(hr s hs).2] at hlen
  have h1 : isR (woL s.1 l) = true := by
    rw [isR_iff]
    intro x hx
    have hx' : x ∈ l ∧ x.1 ≠ s.1 := by simpa [woL] using hx
    rw [ofR_wo hx'.2]
    exact hr x hx'.1
  obtain ⟨h0, a, b, c, e, hn⟩ := route_parts h hs
  have hw : woL s.1 l = a ++ b ++ c := by
    have hn' := hn
    rw [noR_append, noR_append] at hn'
    rw [e, wo_append, wo_own, wo_append, wo_own, wo_self hn'.1.1, wo_self hn'.1.2, wo_self hn'.2, List.append_assoc]
  have hix := ix_parts a b c hn
  rw [← e] at hix
  have hm : mayW (woL s.1 l) s.1 (ixV (s.1, 0) l) (ixV (s.1, 1) l - 1) = true := by
    rw [mayW_iff, hix.1, hix.2, hw]
    simp only [List.length_append] at hlen ⊢
    rw [hw] at hlen
    simp at hlen
    refine ⟨by omega, by omega, by omega, h0, by omega, hn⟩
  refine ⟨h1, by simp at hlen; omega, hm, ?_⟩
  unfold withV
  rw [if_pos hm, hix.1, hix.2, hw]
  rw [show ((a.length : Nat) : Int).toNat = a.length by simp, show (((a.length + b.length + 1 : Nat) : Int) - 1).toNat = a.length + b.length by omega, withL_parts]
  exact e.symm

end Go.Proofs.YthjdacbgcpldjaaDoor.Route
