/-
  Contracts of package num's functions.
-/
import Derived.Test.YthipniehnniibaaRows
import Derived.Test.YthipniehnniibaaNumMath
import Derived.WalkKit
import Derived.WalkSpells
import Derived.ProofKit
import Derived.Outline
import Derived.Deep.QuietTactic
import Derived.BigQuiet
import Derived.WalkLawsBesides
import Derived.Lib.Hide
namespace Go.Proofs.Ythipniehnniibaa.Num
open Go.RowKit
set_option linter.unusedVariables false

theorem ret_int {k : IntKind} {a b : Int} (h : a = b) : Ending.returned (.int k a) = .returned (.int k b) := by rw [h]
theorem ret_bool {a b : Bool} (h : a = b) : Ending.returned (.bool a) = .returned (.bool b) := by rw [h]
theorem ret_ib {k : IntKind} {a b : Int} {c d : Bool} (h : a = b) (h2 : c = d) : Ending.returned (.tuple #[.int k a, .bool c]) = .returned (.tuple #[.int k b, .bool d]) := by rw [h, h2]

theorem below_drewN {B : Nat} {a w : World} (h : Below B a w) (n : Nat) : Below B a (w.drewN n) := ⟨h.os, h.tape, h.output, h.size, h.block⟩

theorem clamp_any (n a b : Int) (w : World) :
    Calls Try.prog 30 #[.int .i64 n, .int .i64 a, .int .i64 b] w fun e w' => e = .returned (.int .i64 (clampV n a b)) ∧ w = w' := by
  by_cases h1 : n < a
  · go_enter Try.func30, Try.ntmps30
    go_wp2
    go_ret
    exact ⟨ret_int (clampV_lo (by omega)).symm, rfl⟩
  · by_cases h2 : b < n
    · go_enter Try.func30, Try.ntmps30
      go_wp2
      go_ret
      exact ⟨ret_int (clampV_hi (by omega) (by omega)).symm, rfl⟩
    · go_enter Try.func30, Try.ntmps30
      go_wp2
      go_ret
      exact ⟨ret_int (clampV_in (by omega) (by omega)).symm, rfl⟩

theorem Clamp_any (n a b : Int) (w : World) :
    Calls Try.prog 19 #[.int .i64 n, .int .i64 a, .int .i64 b] w fun e w' => e = .returned (.int .i64 (clampV n a b)) ∧ w = w' := by
  go_enter Try.func19, Try.ntmps19
  go_wp2_with (go_at_call 30; refine (clamp_any _ _ _ _).mono ?_; rintro e w' ⟨rfl, rfl⟩)
  go_ret
  exact ⟨rfl, rfl⟩

theorem Add_yes (a b : Int) (hf : inR (a + b) = true) (w : World) :
    Calls Try.prog 9 #[.int .i64 a, .int .i64 b] w fun e w' => e = .returned (.tuple #[.int .i64 (a + b), .bool true]) ∧ Below w.heap.size w w' := by
  obtain ⟨h1, h2⟩ := (inR_iff _).1 hf
  have t1 : (decide (a < a + b) == decide (0 < b)) = true := by rw [beq_iff_eq, decide_eq_decide]; omega
  clear hf
  go_enter Try.func9, Try.ntmps9
  go_wp2
  go_ret2
  exact ⟨rfl, by repeat (first | exact Below.refl _ _ | refine Below.alloc ?_ (by simp) _)⟩

theorem Add_no (a b : Int) (ha1 : -9223372036854775808 ≤ a) (ha2 : a ≤ 9223372036854775807) (hb1 : -9223372036854775808 ≤ b) (hb2 : b ≤ 9223372036854775807) (hf : inR (a + b) = false) (w : World) :
    Calls Try.prog 9 #[.int .i64 a, .int .i64 b] w fun e w' => e = .returned (.tuple #[.int .i64 0, .bool false]) ∧ Below w.heap.size w w' := by
  have h := not_inR _ hf
  obtain ⟨k, hk, h1, h2⟩ := wrap64_cases (a + b)
  have t1 : (decide (a < wrap64 (a + b)) == decide (0 < b)) = false := by
    generalize wrap64 (a + b) = n at *
    rw [beq_eq_false_iff_ne, ne_eq, decide_eq_decide]
    omega
  clear hf hk h1 h2 h
  go_enter Try.func9, Try.ntmps9
  go_wp2
  go_ret2
  exact ⟨rfl, by repeat (first | exact Below.refl _ _ | refine Below.alloc ?_ (by simp) _)⟩

theorem Sub_yes (a b : Int) (hf : inR (a - b) = true) (w : World) :
    Calls Try.prog 12 #[.int .i64 a, .int .i64 b] w fun e w' => e = .returned (.tuple #[.int .i64 (a - b), .bool true]) ∧ Below w.heap.size w w' := by
  obtain ⟨h1, h2⟩ := (inR_iff _).1 hf
  have t1 : (decide (a - b < a) == decide (0 < b)) = true := by rw [beq_iff_eq, decide_eq_decide]; omega
  clear hf
  go_enter Try.func12, Try.ntmps12
  go_wp2
  go_ret2
  exact ⟨rfl, by repeat (first | exact Below.refl _ _ | refine Below.alloc ?_ (by simp) _)⟩

theorem Sub_no (a b : Int) (ha1 : -9223372036854775808 ≤ a) (ha2 : a ≤ 9223372036854775807) (hb1 : -9223372036854775808 ≤ b) (hb2 : b ≤ 9223372036854775807) (hf : inR (a - b) = false) (w : World) :
    Calls Try.prog 12 #[.int .i64 a, .int .i64 b] w fun e w' => e = .returned (.tuple #[.int .i64 0, .bool false]) ∧ Below w.heap.size w w' := by
  have h := not_inR _ hf
  obtain ⟨k, hk, h1, h2⟩ := wrap64_cases (a - b)
  have t1 : (decide (wrap64 (a - b) < a) == decide (0 < b)) = false := by
    generalize wrap64 (a - b) = n at *
    rw [beq_eq_false_iff_ne, ne_eq, decide_eq_decide]
    omega
  clear hf hk h1 h2 h
  go_enter Try.func12, Try.ntmps12
  go_wp2
  go_ret2
  exact ⟨rfl, by repeat (first | exact Below.refl _ _ | refine Below.alloc ?_ (by simp) _)⟩

theorem Mul_zero (a b : Int) (h0 : a = 0) (w : World) :
    Calls Try.prog 14 #[.int .i64 a, .int .i64 b] w fun e w' => e = .returned (.tuple #[.int .i64 0, .bool true]) ∧ Below w.heap.size w w' := by
  subst h0
  go_enter Try.func14, Try.ntmps14
  go_wp2
  go_ret2
  exact ⟨rfl, by repeat (first | exact Below.refl _ _ | refine Below.alloc ?_ (by simp) _)⟩

theorem Mul_neg_yes (b : Int) (h : b ≠ -9223372036854775808) (hb1 : -9223372036854775808 ≤ b) (hb2 : b ≤ 9223372036854775807) (w : World) :
    Calls Try.prog 14 #[.int .i64 (-1), .int .i64 b] w fun e w' => e = .returned (.tuple #[.int .i64 (-1 * b), .bool true]) ∧ Below w.heap.size w w' := by
  have h1 : -9223372036854775807 ≤ b := by omega
  have t1 : (b != -9223372036854775808) = true := by rw [bne_iff_ne]; exact h
  clear h hb1
  go_enter Try.func14, Try.ntmps14
  go_wp2
  go_ret2
  exact ⟨ret_ib (by omega) rfl, by repeat (first | exact Below.refl _ _ | refine Below.alloc ?_ (by simp) _)⟩

theorem Mul_neg_no (w : World) :
    Calls Try.prog 14 #[.int .i64 (-1), .int .i64 (-9223372036854775808)] w fun e w' => e = .returned (.tuple #[.int .i64 0, .bool false]) ∧ Below w.heap.size w w' := by
  go_enter Try.func14, Try.ntmps14
  go_wp2
  go_ret2
  exact ⟨rfl, by repeat (first | exact Below.refl _ _ | refine Below.alloc ?_ (by simp) _)⟩

theorem Mul_yes (a b : Int) (h0 : a ≠ 0) (hn : a ≠ -1) (ha1 : -9223372036854775808 ≤ a) (ha2 : a ≤ 9223372036854775807) (hb1 : -9223372036854775808 ≤ b) (hb2 : b ≤ 9223372036854775807) (hf : inR (a * b) = true) (w : World) :
    Calls Try.prog 14 #[.int .i64 a, .int .i64 b] w fun e w' => e = .returned (.tuple #[.int .i64 (a * b), .bool true]) ∧ Below w.heap.size w w' := by
  obtain ⟨h1, h2⟩ := (inR_iff _).1 hf
  have t1 : (a == 0) = false := by rw [beq_eq_false_iff_ne]; exact h0
  have t2 : (a == -1) = false := by rw [beq_eq_false_iff_ne]; exact hn
  have t3 : (a * b).tdiv a = b := Int.mul_tdiv_cancel_left _ h0
  clear hf
  go_enter Try.func14, Try.ntmps14
  go_wp2
  go_quiet (fail)
  go_wp2
  go_ret2
  exact ⟨rfl, below_drewN (((Below.refl _ _).alloc (Nat.le_refl _) _).alloc (by simp) _) _⟩

theorem Mul_no (a b : Int) (h0 : a ≠ 0) (hn : a ≠ -1) (ha1 : -9223372036854775808 ≤ a) (ha2 : a ≤ 9223372036854775807) (hb1 : -9223372036854775808 ≤ b) (hb2 : b ≤ 9223372036854775807) (hf : inR (a * b) = false) (w : World) :
    Calls Try.prog 14 #[.int .i64 a, .int .i64 b] w fun e w' => e = .returned (.tuple #[.int .i64 0, .bool false]) ∧ Below w.heap.size w w' := by
  have t1 : (a == 0) = false := by rw [beq_eq_false_iff_ne]; exact h0
  have t2 : (a == -1) = false := by rw [beq_eq_false_iff_ne]; exact hn
  have t3 : (wrap64 ((wrap64 (a * b)).tdiv a) == b) = false := by
    have h := not_inR _ hf
    obtain ⟨k, hk, h1, h2⟩ := wrap64_cases (a * b)
    rw [beq_eq_false_iff_ne]
    intro hd
    rw [tdiv_wraps _ _ h1 h2 h0 hn] at hd
    have := mul_back a b _ k h0 ha1 ha2 hk hd
    subst this
    rw [show a * b + 0 * 18446744073709551616 = a * b from by omega] at hk
    rw [hk] at h1 h2
    omega
  clear hf
  go_enter Try.func14, Try.ntmps14
  go_wp2
  go_quiet (fail)
  go_wp2
  go_ret2
  exact ⟨rfl, below_drewN (((Below.refl _ _).alloc (Nat.le_refl _) _).alloc (by simp) _) _⟩

theorem Add_any (a b : Int) (ha1 : -9223372036854775808 ≤ a) (ha2 : a ≤ 9223372036854775807) (hb1 : -9223372036854775808 ≤ b) (hb2 : b ≤ 9223372036854775807) (w : World) :
    Calls Try.prog 9 #[.int .i64 a, .int .i64 b] w fun e w' => e = .returned (.tuple #[.int .i64 (fit (a + b)), .bool (inR (a + b))]) ∧ Below w.heap.size w w' := by
  by_cases h : inR (a + b) = true
  · rw [fit_in h, h]; exact Add_yes a b h w
  · have h := eq_false_of_ne_true h
    rw [fit_out h, h]; exact Add_no a b ha1 ha2 hb1 hb2 h w

theorem Sub_any (a b : Int) (ha1 : -9223372036854775808 ≤ a) (ha2 : a ≤ 9223372036854775807) (hb1 : -9223372036854775808 ≤ b) (hb2 : b ≤ 9223372036854775807) (w : World) :
    Calls Try.prog 12 #[.int .i64 a, .int .i64 b] w fun e w' => e = .returned (.tuple #[.int .i64 (fit (a - b)), .bool (inR (a - b))]) ∧ Below w.heap.size w w' := by
  by_cases h : inR (a - b) = true
  · rw [fit_in h, h]; exact Sub_yes a b h w
  · have h := eq_false_of_ne_true h
    rw [fit_out h, h]; exact Sub_no a b ha1 ha2 hb1 hb2 h w

theorem Mul_any (a b : Int) (ha1 : -9223372036854775808 ≤ a) (ha2 : a ≤ 9223372036854775807) (hb1 : -9223372036854775808 ≤ b) (hb2 : b ≤ 9223372036854775807) (w : World) :
    Calls Try.prog 14 #[.int .i64 a, .int .i64 b] w fun e w' => e = .returned (.tuple #[.int .i64 (fit (a * b)), .bool (inR (a * b))]) ∧ Below w.heap.size w w' := by
  by_cases h0 : a = 0
  · have h : inR (a * b) = true := by rw [h0, Int.zero_mul]; exact inR_of 0 (by omega) (by omega)
    rw [fit_in h, h, h0, Int.zero_mul]; exact Mul_zero 0 b rfl w
  · by_cases hn : a = -1
    · subst hn
      by_cases h : b = -9223372036854775808
      · subst h
        have h : inR (-1 * -9223372036854775808) = false := by decide
        rw [fit_out h, h]; exact Mul_neg_no w
      · have h' : inR (-1 * b) = true := inR_of _ (by omega) (by omega)
        rw [fit_in h', h']; exact Mul_neg_yes b h hb1 hb2 w
    · by_cases h : inR (a * b) = true
      · rw [fit_in h, h]; exact Mul_yes a b h0 hn ha1 ha2 hb1 hb2 h w
      · have h := eq_false_of_ne_true h
        rw [fit_out h, h]; exact Mul_no a b h0 hn ha1 ha2 hb1 hb2 h w

theorem within_any (n a b : Int) (w : World) :
    Calls Try.prog 31 #[.int .i64 n, .int .i64 a, .int .i64 b] w fun e w' => e = .returned (.bool (withinB n a b)) ∧ w = w' := by
  by_cases h1 : a ≤ n
  · by_cases h2 : n ≤ b
    · go_enter Try.func31, Try.ntmps31
      go_wp2
      go_ret
      exact ⟨ret_bool (by simp [withinB, h1, h2]), rfl⟩
    · go_enter Try.func31, Try.ntmps31
      go_wp2
      go_ret
      exact ⟨ret_bool (by simp [withinB, h1]; omega), rfl⟩
  · go_enter Try.func31, Try.ntmps31
    go_wp2
    go_ret
    exact ⟨ret_bool (by simp [withinB]; omega), rfl⟩

theorem Within_any (n a b : Int) (w : World) :
    Calls Try.prog 20 #[.int .i64 n, .int .i64 a, .int .i64 b] w fun e w' => e = .returned (.bool (withinB n a b)) ∧ w = w' := by
  go_enter Try.func20, Try.ntmps20
  go_wp2_with (go_at_call 31; refine (within_any _ _ _ _).mono ?_; rintro e w' ⟨rfl, rfl⟩)
  go_ret
  exact ⟨rfl, rfl⟩

end Go.Proofs.Ythipniehnniibaa.Num
