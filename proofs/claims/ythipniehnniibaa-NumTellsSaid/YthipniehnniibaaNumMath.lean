/-
  Plain facts on whole numbers of 64 bits: nothing here speaks of a program.
-/
import Derived.WalkKit
import Derived.IntWalk
namespace Go.Proofs.Ythipniehnniibaa.Num
open Go.RowKit

/-- The least whole number of 64 bits, and the greatest: behind names. -/
def lo : Int := -9223372036854775808
def hi : Int := 9223372036854775807
/-- Does it fit? -/
def inR (n : Int) : Bool := decide (lo ≤ n ∧ n ≤ hi)
/-- The number if it fits, else 0. -/
def fit (n : Int) : Int := if inR n = true then n else 0

theorem inR_iff (n : Int) : inR n = true ↔ -9223372036854775808 ≤ n ∧ n ≤ 9223372036854775807 := decide_eq_true_iff
theorem inR_of (n : Int) (h1 : -9223372036854775808 ≤ n) (h2 : n ≤ 9223372036854775807) : inR n = true := (inR_iff n).2 ⟨h1, h2⟩
theorem not_inR (n : Int) (h : inR n = false) : n < -9223372036854775808 ∨ 9223372036854775807 < n := by
  by_cases h1 : -9223372036854775808 ≤ n
  · by_cases h2 : n ≤ 9223372036854775807
    · rw [inR_of n h1 h2] at h; cases h
    · right; omega
  · left; omega
theorem fit_in {n : Int} (h : inR n = true) : fit n = n := by simp [fit, h]
theorem fit_out {n : Int} (h : inR n = false) : fit n = 0 := by simp [fit, h]
theorem fit_bd (n : Int) : -9223372036854775808 ≤ fit n ∧ fit n ≤ 9223372036854775807 := by
  by_cases h : inR n = true
  · rw [fit_in h]; exact (inR_iff n).1 h
  · simp [fit, h]

theorem wrap64_cases (n : Int) : ∃ k : Int, wrap64 n = n + k * 18446744073709551616 ∧ -9223372036854775808 ≤ wrap64 n ∧ wrap64 n ≤ 9223372036854775807 := by
  unfold wrap64
  refine ⟨-((n + 9223372036854775808) / 18446744073709551616), ?_, ?_, ?_⟩ <;> omega

/-- What Clamp answers. -/
def clampV (n a b : Int) : Int := if n < a then a else if b < n then b else n
theorem clampV_lo {n a b : Int} (h : n < a) : clampV n a b = a := by simp [clampV, h]
theorem clampV_hi {n a b : Int} (h : ¬ n < a) (h2 : b < n) : clampV n a b = b := by simp [clampV, h, h2]
theorem clampV_in {n a b : Int} (h : ¬ n < a) (h2 : ¬ b < n) : clampV n a b = n := by simp [clampV, h, h2]
/-- What Within answers. -/
def withinB (n a b : Int) : Bool := decide (a ≤ n ∧ n ≤ b)

/-- Multiplying back tells a product that has gone round. -/
theorem mul_back (a b n : Int) (k : Int) (ha : a ≠ 0) (h1 : -9223372036854775808 ≤ a) (h2 : a ≤ 9223372036854775807) (hn : n = a * b + k * 18446744073709551616) (hd : n.tdiv a = b) : k = 0 := by
  have h := Int.mul_tdiv_add_tmod n a
  rw [hd] at h
  have hr : n.tmod a = k * 18446744073709551616 := by omega
  have hl : (n.tmod a).natAbs < a.natAbs := by
    rw [Int.natAbs_tmod]
    exact Nat.mod_lt _ (by omega)
  omega

theorem tdiv_wraps (n a : Int) (h1 : -9223372036854775808 ≤ n) (h2 : n ≤ 9223372036854775807) (h0 : a ≠ 0) (hn : a ≠ -1) : wrap64 (n.tdiv a) = n.tdiv a := by
  have hd : (n.tdiv a).natAbs = n.natAbs / a.natAbs := Int.natAbs_tdiv n a
  by_cases ha : a = 1
  · subst ha
    rw [Int.tdiv_one]
    exact IntWalk.wrap64_in n ⟨h1, h2⟩
  · have hle : n.natAbs / a.natAbs ≤ n.natAbs / 2 := Nat.div_le_div_left (by omega) (by omega)
    exact IntWalk.wrap64_in _ ⟨by omega, by omega⟩

end Go.Proofs.Ythipniehnniibaa.Num
