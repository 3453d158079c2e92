/-
  How far two places of one way are from each other, in plain Lean. No program is spoken of here.
-/
import Derived.Test.YtjojdfbjecbhnaaPlaceMath
namespace Go.Proofs.Ytjojdfbjecbhnaa.Place

theorem toward_val (n m : Int) (k : Nat) : toward n m k = if n < m then n + (min k (gap n m).toNat : Nat) else n - (min k (gap n m).toNat : Nat) := by
  unfold toward gap
  by_cases h : n < m
  · simp only [h, if_true]
    split <;> omega
  · simp only [h, if_false]
    split <;> omega
theorem toward_gap (n m : Int) (i j : Nat) : gap (toward n m i) (toward n m j) = gap ((min i (gap n m).toNat : Nat) : Int) ((min j (gap n m).toNat : Nat) : Int) := by
  rw [toward_val, toward_val]
  generalize (gap n m).toNat = g
  by_cases h : n < m
  · simp only [h, if_true]
    unfold gap
    split <;> split <;> omega
  · simp only [h, if_false]
    unfold gap
    split <;> split <;> omega

theorem pt_dist (a b : Int × Int) (ha : mayB a = true) (hb : mayB b = true) {i j : Nat} (hi : i ≤ nx a b + ny a b) (hj : j ≤ nx a b + ny a b) :
    distV (pt a b i) (pt a b j) = ((max i j - min i j : Nat) : Int) := by
  rw [distV_yes (pt_side a b i ha hb) (pt_side a b j ha hb)]
  simp only [pt]
  rw [toward_gap, toward_gap]
  have e1 : (gap a.1 b.1).toNat = nx a b := rfl
  have e2 : (gap a.2 b.2).toNat = ny a b := rfl
  rw [e1, e2]
  generalize nx a b = X at *
  generalize ny a b = Y at *
  unfold gap
  split <;> split <;> omega

theorem pt_next (a b : Int × Int) (ha : mayB a = true) (hb : mayB b = true) {k : Nat} (hk : k < nx a b + ny a b) : distV (pt a b k) (pt a b (k + 1)) = 1 := by
  rw [pt_dist a b ha hb (by omega) (by omega)]
  omega

end Go.Proofs.Ytjojdfbjecbhnaa.Place
