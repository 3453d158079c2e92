/-
  Plain facts on sums that may go beyond 64 bits: nothing here speaks of a program.
-/
import Derived.Test.YthipniehnniibaaNumMath
namespace Go.Proofs.Ythipniehnniibaa.Num

/-- What comes of a row of numbers, one behind the other: each sum so far, and whether it fits. -/
def items : Int → List Int → List (Int × Bool)
  | _, [] => []
  | acc, x :: r => (fit (acc + x), inR (acc + x)) :: items (fit (acc + x)) r
/-- The last of them, or what was before. -/
def lastV (acc : Int) : List (Int × Bool) → Int
  | [] => acc
  | p :: r => lastV p.1 r
def sumB (xs : List Int) : Bool := (items 0 xs).all (·.2)
def sumV (xs : List Int) : Int := if sumB xs = true then lastV 0 (items 0 xs) else 0

theorem lastV_snoc (acc : Int) (l : List (Int × Bool)) (p : Int × Bool) : lastV acc (l ++ [p]) = p.1 := by
  induction l generalizing acc with
  | nil => rfl
  | cons q r ih => exact ih _
theorem items_length (acc : Int) (xs : List Int) : (items acc xs).length = xs.length := by
  induction xs generalizing acc with
  | nil => rfl
  | cons x r ih => simp [items, ih]
theorem items_snoc (acc : Int) (l : List Int) (x : Int) :
    items acc (l ++ [x]) = items acc l ++ [(fit (lastV acc (items acc l) + x), inR (lastV acc (items acc l) + x))] := by
  induction l generalizing acc with
  | nil => rfl
  | cons y r ih => simp only [List.cons_append, items, lastV, ih]
theorem lastV_bd (acc : Int) (xs : List Int) (h : -9223372036854775808 ≤ acc ∧ acc ≤ 9223372036854775807) :
    -9223372036854775808 ≤ lastV acc (items acc xs) ∧ lastV acc (items acc xs) ≤ 9223372036854775807 := by
  induction xs generalizing acc with
  | nil => exact h
  | cons x r ih => exact ih _ (fit_bd _)
/-- What has come behind k rounds. -/
def upto (xs : List Int) (k : Nat) : List (Int × Bool) := items 0 (xs.take k)
theorem upto_zero (xs : List Int) : upto xs 0 = [] := rfl
theorem upto_length (xs : List Int) {k : Nat} (h : k ≤ xs.length) : (upto xs k).length = k := by simp [upto, items_length]; omega
theorem upto_succ (xs : List Int) {k : Nat} (h : k < xs.length) :
    upto xs (k + 1) = upto xs k ++ [(fit (lastV 0 (upto xs k) + xs[k]), inR (lastV 0 (upto xs k) + xs[k]))] := by
  unfold upto
  rw [List.take_succ_eq_append_getElem h, items_snoc]
theorem upto_all (xs : List Int) : upto xs xs.length = items 0 xs := by simp [upto]
theorem upto_bd (xs : List Int) (k : Nat) : -9223372036854775808 ≤ lastV 0 (upto xs k) ∧ lastV 0 (upto xs k) ≤ 9223372036854775807 := lastV_bd 0 _ (by omega)
theorem items_prefix (acc : Int) (xs : List Int) (k : Nat) : items acc (xs.take k) <+: items acc xs := by
  induction xs generalizing acc k with
  | nil => simp [items]
  | cons x r ih =>
    cases k with
    | zero => simp [items]
    | succ k => simpa [items] using ih _ k
theorem upto_prefix (xs : List Int) (k : Nat) : upto xs k <+: items 0 xs := items_prefix 0 xs k
theorem sumB_of_all {xs : List Int} (h : ∀ p ∈ items 0 xs, p.2 = true) : sumB xs = true := by simpa [sumB] using h
theorem sumB_no {xs : List Int} {pre : List (Int × Bool)} (h : pre <+: items 0 xs) {p : Int × Bool} (hp : p ∈ pre) (hf : p.2 = false) : sumB xs = false := by
  have := h.subset hp
  simp only [sumB, List.all_eq_false]
  exact ⟨p, this, by simp [hf]⟩
theorem sumV_yes {xs : List Int} (h : sumB xs = true) : sumV xs = lastV 0 (items 0 xs) := by simp [sumV, h]
theorem sumV_no {xs : List Int} (h : sumB xs = false) : sumV xs = 0 := by simp [sumV, h]

end Go.Proofs.Ythipniehnniibaa.Num
