/-
  The answer's own wide numbers (package consignref01), all together: what two numbers make.
-/
import Derived.Test.YthipniehnniibaaNumWide3
import Derived.Test.YthipniehnniibaaNumWide5
namespace Go.Proofs.Ythipniehnniibaa.Num
open Go.RowKit Go.Proofs.Ythipniehnniibaa.Mem
set_option linter.unusedVariables false

/-- How far a number is from 0. -/
def far (n : Int) : Int := if n < 0 then -n else n
/-- A number, as a wide one; and turned round. -/
def ofV (n : Int) : Value := wide (decide (n < 0)) (far n % 4294967296) (far n / 4294967296) 0 0
def negV (n : Int) : Value := wide (!decide (n < 0)) (far n % 4294967296) (far n / 4294967296) 0 0

theorem far_bd {n : Int} (h1 : -9223372036854775808 ≤ n) (h2 : n ≤ 9223372036854775807) : 0 ≤ far n ∧ far n ≤ 9223372036854775808 := by
  unfold far; split <;> omega
theorem val_of (n : Int) : valW (decide (n < 0)) (far n) = n := by
  unfold valW far
  by_cases h : n < 0 <;> simp [h]
theorem val_neg (n : Int) : valW (!decide (n < 0)) (far n) = -n := by
  unfold valW far
  by_cases h : n < 0 <;> simp [h]
theorem mag_of (m : Int) : mag (m % 4294967296) (m / 4294967296) 0 0 = m := by unfold mag; omega

theorem Of_exact (n : Int) (w : World) (h1 : -9223372036854775808 ≤ n) (h2 : n ≤ 9223372036854775807) :
    Calls Try.prog 8 #[.int .i64 n] w fun e w' => e = .returned (ofV n) ∧
      w' = (w.alloc (.cells #[.bool (decide (n < 0)), .int .u64 (far n % 4294967296), .int .u64 (far n / 4294967296), .int .u64 0, .int .u64 0] 29)).alloc (.cells #[.bool (decide (n < 0)), .int .u64 (far n % 4294967296), .int .u64 (far n / 4294967296), .int .u64 0, .int .u64 0] 29) := by
  unfold ofV far
  by_cases h : n < 0
  · rw [if_pos h, decide_eq_true h]
    exact Of_neg n w h1 h
  · rw [if_neg h, decide_eq_false h]
    exact Of_pos n w (by omega) h2
theorem Of_any (n : Int) (w : World) (h1 : -9223372036854775808 ≤ n) (h2 : n ≤ 9223372036854775807) :
    Calls Try.prog 8 #[.int .i64 n] w fun e w' => e = .returned (ofV n) ∧ Below w.heap.size w w' :=
  (Of_exact n w h1 h2).mono fun _ _ ⟨he, hw⟩ => ⟨he, by rw [hw]; exact ((Below.refl _ _).alloc (Nat.le_refl _) _).alloc (by simp) _⟩

theorem Neg_of (n : Int) (w : World) : Calls Try.prog 13 #[ofV n] w fun e w' => e = .returned (negV n) ∧ Below w.heap.size w w' := Neg_any _ _ _ _ _ w

theorem SomeWide.of_eq {w : World} {n m : Int} (h : n = m) {P : Program} {f : FuncId} {args : Array Value} (hc : Calls P f args w (SomeWide w n)) : Calls P f args w (SomeWide w m) := by subst h; exact hc

theorem Add_wide (s t : Bool) (a0 a1 b0 b1 : Int) (w : World) (ha0 : 0 ≤ a0) (ha0' : a0 < 4294967296) (ha1 : 0 ≤ a1) (ha1' : a1 < 4294967296) (hb0 : 0 ≤ b0) (hb0' : b0 < 4294967296) (hb1 : 0 ≤ b1) (hb1' : b1 < 4294967296) :
    Calls Try.prog 11 #[wide s a0 a1 0 0, wide t b0 b1 0 0] w (SomeWide w (valW s (mag a0 a1 0 0) + valW t (mag b0 b1 0 0))) := by
  by_cases hst : s = t
  · subst hst
    exact SomeWide.of_eq (by unfold valW mag; split <;> omega) (Add_same s a0 a1 b0 b1 w ha0 ha0' ha1 ha1' hb0 hb0' hb1 hb1')
  · cases hl : lessB a0 a1 b0 b1
    · have hl' := lessB_no hl
      by_cases h0 : b0 ≤ a0
      · have h1 : b1 ≤ a1 := by omega
        cases s <;> cases t
        · exact absurd rfl hst
        · exact SomeWide.of_eq (by simp [valW, mag]; omega) (Add_fno a0 a1 b0 b1 w ha0 ha0' ha1 ha1' hb0 hb0' hb1 hb1' hl h0 h1)
        · exact SomeWide.of_eq (by simp [valW, mag]; omega) (Add_tno a0 a1 b0 b1 w ha0 ha0' ha1 ha1' hb0 hb0' hb1 hb1' hl h0 h1)
        · exact absurd rfl hst
      · have h0' : a0 < b0 := by omega
        have h1 : b1 + 1 ≤ a1 := by omega
        cases s <;> cases t
        · exact absurd rfl hst
        · exact SomeWide.of_eq (by simp [valW, mag]; omega) (Add_fnb a0 a1 b0 b1 w ha0 ha0' ha1 ha1' hb0 hb0' hb1 hb1' hl h0' h1)
        · exact SomeWide.of_eq (by simp [valW, mag]; omega) (Add_tnb a0 a1 b0 b1 w ha0 ha0' ha1 ha1' hb0 hb0' hb1 hb1' hl h0' h1)
        · exact absurd rfl hst
    · have hl' := lessB_yes hl
      by_cases h0 : a0 ≤ b0
      · have h1 : a1 ≤ b1 := by omega
        cases s <;> cases t
        · exact absurd rfl hst
        · exact SomeWide.of_eq (by simp [valW, mag]; omega) (Add_fso a0 a1 b0 b1 w ha0 ha0' ha1 ha1' hb0 hb0' hb1 hb1' hl h0 h1)
        · exact SomeWide.of_eq (by simp [valW, mag]; omega) (Add_tso a0 a1 b0 b1 w ha0 ha0' ha1 ha1' hb0 hb0' hb1 hb1' hl h0 h1)
        · exact absurd rfl hst
      · have h0' : b0 < a0 := by omega
        have h1 : a1 + 1 ≤ b1 := by omega
        cases s <;> cases t
        · exact absurd rfl hst
        · exact SomeWide.of_eq (by simp [valW, mag]; omega) (Add_fsb a0 a1 b0 b1 w ha0 ha0' ha1 ha1' hb0 hb0' hb1 hb1' hl h0' h1)
        · exact SomeWide.of_eq (by simp [valW, mag]; omega) (Add_tsb a0 a1 b0 b1 w ha0 ha0' ha1 ha1' hb0 hb0' hb1 hb1' hl h0' h1)
        · exact absurd rfl hst

theorem Add_ofs (n m : Int) (w : World) (n1 : -9223372036854775808 ≤ n) (n2 : n ≤ 9223372036854775807) (m1 : -9223372036854775808 ≤ m) (m2 : m ≤ 9223372036854775807) :
    Calls Try.prog 11 #[ofV n, ofV m] w (SomeWide w (n + m)) := by
  obtain ⟨f1, f2⟩ := far_bd n1 n2
  obtain ⟨g1, g2⟩ := far_bd m1 m2
  exact SomeWide.of_eq (by rw [mag_of, mag_of, val_of, val_of]) (Add_wide _ _ _ _ _ _ w (by omega) (by omega) (by omega) (by omega) (by omega) (by omega) (by omega) (by omega))

theorem Add_neg (n m : Int) (w : World) (n1 : -9223372036854775808 ≤ n) (n2 : n ≤ 9223372036854775807) (m1 : -9223372036854775808 ≤ m) (m2 : m ≤ 9223372036854775807) :
    Calls Try.prog 11 #[ofV n, negV m] w (SomeWide w (n - m)) := by
  obtain ⟨f1, f2⟩ := far_bd n1 n2
  obtain ⟨g1, g2⟩ := far_bd m1 m2
  exact SomeWide.of_eq (by rw [mag_of, mag_of, val_of, val_neg]; omega) (Add_wide _ _ _ _ _ _ w (by omega) (by omega) (by omega) (by omega) (by omega) (by omega) (by omega) (by omega))

theorem val_times (n m : Int) : valW (decide (n < 0) != decide (m < 0)) (far n * far m) = n * m := by
  unfold valW far
  by_cases h : n < 0 <;> by_cases h' : m < 0 <;> simp [h, h', Int.neg_mul, Int.mul_neg]

theorem Mul_ofs (n m : Int) (w : World) (n1 : -9223372036854775808 ≤ n) (n2 : n ≤ 9223372036854775807) (m1 : -9223372036854775808 ≤ m) (m2 : m ≤ 9223372036854775807) :
    Calls Try.prog 15 #[ofV n, ofV m] w (SomeWide w (n * m)) := by
  obtain ⟨f1, f2⟩ := far_bd n1 n2
  obtain ⟨g1, g2⟩ := far_bd m1 m2
  refine SomeWide.of_eq ?_ (Mul_wide _ _ _ _ _ _ w (by omega) (by omega) (by omega) (by omega) (by omega) (by omega) (by omega) (by omega))
  rw [← val_times n m]
  congr 1
  have e1 : far n = far n % 4294967296 + 4294967296 * (far n / 4294967296) := by omega
  have e2 : far m = far m % 4294967296 + 4294967296 * (far m / 4294967296) := by omega
  generalize far n % 4294967296 = a0 at *
  generalize far n / 4294967296 = a1 at *
  generalize far m % 4294967296 = b0 at *
  generalize far m / 4294967296 = b1 at *
  rw [e1, e2]
  simp only [Int.add_mul, Int.mul_add, Int.mul_assoc]
  have h1 : a1 * (4294967296 * b0) = 4294967296 * (a1 * b0) := by rw [← Int.mul_assoc, Int.mul_comm a1, Int.mul_assoc]
  have h2 : a1 * (4294967296 * b1) = 4294967296 * (a1 * b1) := by rw [← Int.mul_assoc, Int.mul_comm a1, Int.mul_assoc]
  have h3 : a0 * (4294967296 * b1) = 4294967296 * (a0 * b1) := by rw [← Int.mul_assoc, Int.mul_comm a0, Int.mul_assoc]
  rw [h2, h3]
  omega

end Go.Proofs.Ythipniehnniibaa.Num
