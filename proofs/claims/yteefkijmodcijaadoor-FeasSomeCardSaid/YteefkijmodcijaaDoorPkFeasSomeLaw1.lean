

/-
  Places on the grid, in plain Lean: what may be, how far it is, and the places of a way by their number. No program is spoken of here.
-/
namespace Go.Proofs.YteefkijmodcijaaDoor.Place

/-- A number is on a side of the grid. -/
def sideB (n : Int) : Bool := decide (0 ≤ n) && decide (n < 1024)
/-- A place may be. -/
def mayB (p : Int × Int) : Bool := sideB p.1 && sideB p.2
/-- By how much two numbers differ. -/
def gap (a b : Int) : Int := if a < b then b - a else a - b
/-- How far it is. -/
def distV (a b : Int × Int) : Int := if mayB a && mayB b then gap a.1 b.1 + gap a.2 b.2 else 0
/-- Which of two numbers is greater, as -1, 0 or 1. -/
def cmpV (a b : Int) : Int := if a < b then -1 else if b < a then 1 else 0

theorem sideB_iff (n : Int) : sideB n = true ↔ 0 ≤ n ∧ n < 1024 := by simp [sideB]
theorem mayB_iff (p : Int × Int) : mayB p = true ↔ (0 ≤ p.1 ∧ p.1 < 1024) ∧ 0 ≤ p.2 ∧ p.2 < 1024 := by simp [mayB, sideB_iff]
theorem sideB_no (n : Int) : sideB n = false ↔ n < 0 ∨ 1024 ≤ n := by
  rw [Bool.eq_false_iff, ne_eq, sideB_iff]
  omega
theorem distV_yes {a b : Int × Int} (ha : mayB a = true) (hb : mayB b = true) : distV a b = gap a.1 b.1 + gap a.2 b.2 := by simp [distV, ha, hb]
theorem distV_no1 {a b : Int × Int} (ha : mayB a = false) : distV a b = 0 := by simp [distV, ha]
theorem distV_no2 {a b : Int × Int} (hb : mayB b = false) : distV a b = 0 := by simp [distV, hb]

/-- How far it is along X, and along Y, as counts. -/
def nx (a b : Int × Int) : Nat := (gap a.1 b.1).toNat
def ny (a b : Int × Int) : Nat := (gap a.2 b.2).toNat
/-- From n by k towards m, no further than m. -/
def toward (n m : Int) (k : Nat) : Int := if n < m then (if n + k < m then n + k else m) else (if m < n - k then n - k else m)
/-- The k-th place of the way from a to b. -/
def pt (a b : Int × Int) (k : Nat) : Int × Int := (toward a.1 b.1 k, toward a.2 b.2 (k - nx a b))
/-- The first k places of the way. -/
def upto (a b : Int × Int) (k : Nat) : List (Int × Int) := (List.range k).map (pt a b)
/-- How many places the way has. -/
def wayN (a b : Int × Int) : Nat := nx a b + ny a b + 1
/-- The way from a to b. -/
def wayL (a b : Int × Int) : List (Int × Int) := if mayB a && mayB b then upto a b (wayN a b) else []

theorem upto_succ (a b : Int × Int) (k : Nat) : upto a b (k + 1) = upto a b k ++ [pt a b k] := by simp [upto, List.range_succ]
theorem upto_length (a b : Int × Int) (k : Nat) : (upto a b k).length = k := by simp [upto]
theorem upto_get (a b : Int × Int) (k j : Nat) (h : j < k) : (upto a b k)[j]? = some (pt a b j) := by simp [upto, h]

theorem toward_0 (n m : Int) : toward n m 0 = n := by unfold toward; split <;> split <;> omega
theorem toward_end {n m : Int} {k : Nat} (h : (gap n m).toNat ≤ k) : toward n m k = m := by unfold toward; unfold gap at h; split at h <;> split <;> split <;> omega
theorem toward_ne {n m : Int} {k : Nat} (h : k < (gap n m).toNat) : toward n m k ≠ m := by unfold toward; unfold gap at h; split at h <;> split <;> split <;> omega
theorem toward_step {n m : Int} {k : Nat} (h : k < (gap n m).toNat) : toward n m k + cmpV m (toward n m k) = toward n m (k + 1) := by
  unfold cmpV toward
  unfold gap at h
  by_cases h1 : n < m
  · simp only [h1, if_true] at h ⊢
    rw [if_pos (by omega)]
    split <;> split <;> first | omega | (split <;> omega)
  · simp only [h1, if_false] at h ⊢
    rw [if_pos (by omega)]
    split <;> split <;> first | omega | (split <;> omega)
theorem toward_side {n m : Int} (k : Nat) (hn : 0 ≤ n ∧ n < 1024) (hm : 0 ≤ m ∧ m < 1024) : 0 ≤ toward n m k ∧ toward n m k < 1024 := by unfold toward; split <;> split <;> omega

theorem pt_0 (a b : Int × Int) : pt a b 0 = a := by simp [pt, toward_0]
theorem pt_corner (a b : Int × Int) : pt a b (nx a b) = (b.1, a.2) := by simp [pt, toward_0, toward_end (n := a.1) (m := b.1) (Nat.le_refl (nx a b))]
theorem pt_end (a b : Int × Int) : pt a b (nx a b + ny a b) = b := by
  simp only [pt]
  rw [toward_end (show (gap a.1 b.1).toNat ≤ nx a b + ny a b from Nat.le_add_right _ _), toward_end (show (gap a.2 b.2).toNat ≤ nx a b + ny a b - nx a b by simp [ny])]
theorem pt_side (a b : Int × Int) (k : Nat) (ha : mayB a = true) (hb : mayB b = true) : mayB (pt a b k) = true := by
  rw [mayB_iff] at *
  exact ⟨toward_side k ha.1 hb.1, toward_side _ ha.2 hb.2⟩

theorem gap_nonneg (a b : Int) : 0 ≤ gap a b := by unfold gap; split <;> omega
theorem gap_self (a : Int) : gap a a = 0 := by unfold gap; split <;> omega
theorem cmp_self (a : Int) : cmpV a a = 0 := by unfold cmpV; split <;> (try split) <;> omega
theorem gap_toward {n m : Int} {k : Nat} (h : k ≤ (gap n m).toNat) : gap (toward n m k) m = gap n m - k := by
  unfold toward
  unfold gap at h ⊢
  by_cases h1 : n < m
  · simp only [h1, if_true] at h ⊢
    split <;> first | omega | (split <;> omega)
  · simp only [h1, if_false] at h ⊢
    split <;> first | omega | (split <;> omega)

/-- The first part of a way: along X, to the corner. -/
theorem part1_ne (a b : Int × Int) {i : Nat} (h : i < nx a b) : ((pt a b i).1 == (pt a b (nx a b)).1) = false := by
  rw [pt_corner, beq_eq_false_iff_ne]
  exact toward_ne h
theorem part1_step (a b : Int × Int) {i : Nat} (h : i < nx a b) : (pt a b i).1 + cmpV (pt a b (nx a b)).1 (pt a b i).1 = (pt a b (i + 1)).1 ∧ (pt a b i).2 + cmpV (pt a b (nx a b)).2 (pt a b i).2 = (pt a b (i + 1)).2 := by
  rw [pt_corner]
  refine ⟨toward_step h, ?_⟩
  simp only [pt]
  rw [show i - nx a b = 0 by omega, show i + 1 - nx a b = 0 by omega, toward_0, cmp_self]
  omega
theorem part1_gap (a b : Int × Int) {i : Nat} (h : i < nx a b) :
    gap (pt a b (i + 1)).1 (pt a b (nx a b)).1 + gap (pt a b (i + 1)).2 (pt a b (nx a b)).2 < gap (pt a b i).1 (pt a b (nx a b)).1 + gap (pt a b i).2 (pt a b (nx a b)).2 := by
  rw [pt_corner]
  simp only [pt]
  rw [show i - nx a b = 0 by omega, show i + 1 - nx a b = 0 by omega, toward_0, gap_toward (show i + 1 ≤ (gap a.1 b.1).toNat from h), gap_toward (show i ≤ (gap a.1 b.1).toNat from Nat.le_of_lt h)]
  omega
/-- The second part: along Y, to the end. -/
theorem part2_x (a b : Int × Int) {i : Nat} (h : nx a b ≤ i) : (pt a b i).1 = b.1 := toward_end h
theorem part2_ne (a b : Int × Int) {i : Nat} (h0 : nx a b ≤ i) (h : i < nx a b + ny a b) : ((pt a b i).2 == (pt a b (nx a b + ny a b)).2) = false := by
  rw [pt_end, beq_eq_false_iff_ne]
  exact toward_ne (show i - nx a b < (gap a.2 b.2).toNat by unfold ny at h; omega)
theorem part2_step (a b : Int × Int) {i : Nat} (h0 : nx a b ≤ i) (h : i < nx a b + ny a b) :
    (pt a b i).1 + cmpV (pt a b (nx a b + ny a b)).1 (pt a b i).1 = (pt a b (i + 1)).1 ∧ (pt a b i).2 + cmpV (pt a b (nx a b + ny a b)).2 (pt a b i).2 = (pt a b (i + 1)).2 := by
  rw [pt_end, part2_x a b h0, part2_x a b (show nx a b ≤ i + 1 by omega), cmp_self]
  refine ⟨by omega, ?_⟩
  simp only [pt]
  rw [show i + 1 - nx a b = i - nx a b + 1 by omega]
  exact toward_step (show i - nx a b < (gap a.2 b.2).toNat by unfold ny at h; omega)
theorem part2_gap (a b : Int × Int) {i : Nat} (h0 : nx a b ≤ i) (h : i < nx a b + ny a b) :
    gap (pt a b (i + 1)).1 (pt a b (nx a b + ny a b)).1 + gap (pt a b (i + 1)).2 (pt a b (nx a b + ny a b)).2 < gap (pt a b i).1 (pt a b (nx a b + ny a b)).1 + gap (pt a b i).2 (pt a b (nx a b + ny a b)).2 := by
  rw [pt_end, part2_x a b h0, part2_x a b (show nx a b ≤ i + 1 by omega)]
  simp only [pt]
  rw [show i + 1 - nx a b = i - nx a b + 1 by omega, gap_toward (show i - nx a b + 1 ≤ (gap a.2 b.2).toNat by unfold ny at h; omega), gap_toward (show i - nx a b ≤ (gap a.2 b.2).toNat by unfold ny at h; omega)]
  omega

/-- One step of a way, as one goes along X first. -/
theorem way_cases (a b : Int × Int) {k : Nat} (h : k < nx a b + ny a b) :
    ((pt a b k).1 < b.1 ∧ (pt a b (k + 1)).1 = (pt a b k).1 + 1 ∧ (pt a b (k + 1)).2 = (pt a b k).2) ∨
    (b.1 < (pt a b k).1 ∧ (pt a b (k + 1)).1 = (pt a b k).1 - 1 ∧ (pt a b (k + 1)).2 = (pt a b k).2) ∨
    ((pt a b k).1 = b.1 ∧ (pt a b k).2 < b.2 ∧ (pt a b (k + 1)).1 = (pt a b k).1 ∧ (pt a b (k + 1)).2 = (pt a b k).2 + 1) ∨
    ((pt a b k).1 = b.1 ∧ b.2 < (pt a b k).2 ∧ (pt a b (k + 1)).1 = (pt a b k).1 ∧ (pt a b (k + 1)).2 = (pt a b k).2 - 1) := by
  by_cases h1 : k < nx a b
  · have hs := part1_step a b h1
    have hn := part1_ne a b h1
    rw [pt_corner] at hs hn
    rw [beq_eq_false_iff_ne] at hn
    simp only at hs hn
    have h2 : (pt a b (k + 1)).2 = (pt a b k).2 := by
      simp only [pt]
      rw [show k - nx a b = 0 by omega, show k + 1 - nx a b = 0 by omega]
    unfold cmpV at hs
    obtain ⟨hs1, _⟩ := hs
    by_cases h3 : (pt a b k).1 < b.1
    · left
      rw [if_neg (by omega), if_pos h3] at hs1
      exact ⟨h3, hs1.symm, h2⟩
    · right; left
      rw [if_pos (by omega)] at hs1
      exact ⟨by omega, by omega, h2⟩
  · have hk : nx a b ≤ k := by omega
    have hs := part2_step a b hk h
    have hn := part2_ne a b hk h
    rw [pt_end] at hs hn
    rw [beq_eq_false_iff_ne] at hn
    have e1 := part2_x a b hk
    have e2 := part2_x a b (show nx a b ≤ k + 1 by omega)
    obtain ⟨_, hs2⟩ := hs
    unfold cmpV at hs2
    by_cases h3 : (pt a b k).2 < b.2
    · right; right; left
      rw [if_neg (by omega), if_pos h3] at hs2
      exact ⟨e1, h3, by omega, hs2.symm⟩
    · right; right; right
      rw [if_pos (by omega)] at hs2
      exact ⟨e1, by omega, by omega, by omega⟩

theorem way_left (a b : Int × Int) {k : Nat} (h : k ≤ nx a b + ny a b) : gap (pt a b k).1 b.1 + gap (pt a b k).2 b.2 = (nx a b + ny a b : Nat) - (k : Int) := by
  have h1 := gap_nonneg a.1 b.1
  have h2 := gap_nonneg a.2 b.2
  have e1 : (nx a b : Int) = gap a.1 b.1 := by unfold nx; omega
  have e2 : (ny a b : Int) = gap a.2 b.2 := by unfold ny; omega
  by_cases hk : k ≤ nx a b
  · simp only [pt]
    rw [show k - nx a b = 0 by omega, toward_0, gap_toward (show k ≤ (gap a.1 b.1).toNat from hk)]
    omega
  · rw [part2_x a b (by omega), gap_self]
    simp only [pt]
    rw [gap_toward (show k - nx a b ≤ (gap a.2 b.2).toNat by unfold ny at h; omega)]
    omega
theorem way_ends (a b : Int × Int) {k : Nat} (h : k = nx a b + ny a b) : (pt a b k).1 = b.1 ∧ (pt a b k).2 = b.2 := by
  rw [h, pt_end]
  exact ⟨rfl, rfl⟩

end Go.Proofs.YteefkijmodcijaaDoor.Place

/-
  What package window answers, in plain numbers.
-/
namespace Go.Proofs.YteefkijmodcijaaDoor.Window

/-- May it be? -/
def okB (e l : Int) : Bool := decide (0 ≤ e) && (decide (e ≤ l) && decide (l ≤ 1048576))
theorem okB_iff (e l : Int) : okB e l = true ↔ 0 ≤ e ∧ e ≤ l ∧ l ≤ 1048576 := by simp [okB]
theorem okB_no (e l : Int) : okB e l = false ↔ e < 0 ∨ l < e ∨ 1048576 < l := by
  rw [← Bool.not_eq_true, okB_iff]
  omega

/-- Is t in it? -/
def hasB (e l t : Int) : Bool := okB e l && (decide (e ≤ t) && decide (t ≤ l))
theorem hasB_iff (e l t : Int) : hasB e l t = true ↔ (0 ≤ e ∧ e ≤ l ∧ l ≤ 1048576) ∧ e ≤ t ∧ t ≤ l := by simp [hasB, okB_iff]
theorem hasB_no (e l t : Int) : hasB e l t = false ↔ ¬ ((0 ≤ e ∧ e ≤ l ∧ l ≤ 1048576) ∧ e ≤ t ∧ t ≤ l) := by
  rw [← Bool.not_eq_true, hasB_iff]

/-- A value, where there is one. -/
def orNil (b : Bool) (v : Int) : Int := if b then v else 0
theorem orNil_t (v : Int) : orNil true v = v := rfl
theorem orNil_f (v : Int) : orNil false v = 0 := rfl

/-- Do two have a time together? -/
def meetB (a b c d : Int) : Bool := (okB a b && okB c d) && decide (max a c ≤ min b d)
def meetE (a b c d : Int) : Int := orNil (meetB a b c d) (max a c)
def meetL (a b c d : Int) : Int := orNil (meetB a b c d) (min b d)
theorem meetB_iff (a b c d : Int) : meetB a b c d = true ↔ (0 ≤ a ∧ a ≤ b ∧ b ≤ 1048576) ∧ (0 ≤ c ∧ c ≤ d ∧ d ≤ 1048576) ∧ max a c ≤ min b d := by
  simp only [meetB, Bool.and_eq_true, okB_iff, decide_eq_true_eq]
  constructor
  · rintro ⟨⟨h1, h2⟩, h3⟩; exact ⟨h1, h2, h3⟩
  · rintro ⟨h1, h2, h3⟩; exact ⟨⟨h1, h2⟩, h3⟩

/-- When does who comes at t begin? -/
def waitB (e l t : Int) : Bool := hasB e l (max t e)
def waitV (e l t : Int) : Int := orNil (waitB e l t) (max t e)
theorem waitB_iff (e l t : Int) : waitB e l t = true ↔ (0 ≤ e ∧ e ≤ l ∧ l ≤ 1048576) ∧ t ≤ l := by
  simp only [waitB, hasB_iff]
  omega

/-- Shifted by d. -/
def shiftB (e l d : Int) : Bool := okB e l && (decide (-e ≤ d) && decide (d ≤ 1048576 - l))
def shiftE (e l d : Int) : Int := orNil (shiftB e l d) (e + d)
def shiftL (e l d : Int) : Int := orNil (shiftB e l d) (l + d)
theorem shiftB_iff (e l d : Int) : shiftB e l d = true ↔ (0 ≤ e ∧ e ≤ l ∧ l ≤ 1048576) ∧ -e ≤ d ∧ d ≤ 1048576 - l := by simp [shiftB, okB_iff]

end Go.Proofs.YteefkijmodcijaaDoor.Window
