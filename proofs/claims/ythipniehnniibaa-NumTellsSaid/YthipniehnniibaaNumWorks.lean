/-
  The chapter's examples of num, as the statements' own helper works asks them.
-/
import Derived.Test.YthipniehnniibaaNumSum
namespace Go.Proofs.Ythipniehnniibaa.Num
open Go.RowKit
set_option linter.unusedVariables false

theorem is_any (n : Int) (f : Bool) (m : Int) (w : World) :
    Calls Try.prog 22 #[.int .i64 n, .bool f, .int .i64 m] w fun e w' => e = .returned (.bool (f && n == m)) ∧ w = w' := by
  cases f
  · go_enter Try.func22, Try.ntmps22
    go_wp2
    go_ret
    exact ⟨rfl, rfl⟩
  · go_enter Try.func22, Try.ntmps22
    go_wp2
    go_ret
    exact ⟨rfl, rfl⟩

theorem none_any (n : Int) (f : Bool) (w : World) :
    Calls Try.prog 21 #[.int .i64 n, .bool f] w fun e w' => e = .returned (.bool (!f && n == 0)) ∧ w = w' := by
  cases f
  · go_enter Try.func21, Try.ntmps21
    go_wp2
    go_ret
    exact ⟨rfl, rfl⟩
  · go_enter Try.func21, Try.ntmps21
    go_wp2
    go_ret
    exact ⟨rfl, rfl⟩

/-- A slice of three numbers that was just made. -/
theorem ints3 (w : World) (a b c : Int) (n : Nat) : Ints (w.heap.size + 1) (w.alloc (.cells #[.int .i64 a, .int .i64 b, .int .i64 c] n)) (.slice (some ⟨w.heap.size, 0, none⟩) 3 3) [a, b, c] := by
  refine .inr ⟨w.heap.size, 0, 3, rfl, by omega, fun j hj => ?_⟩
  match j, hj with
  | 0, _ => simp
  | 1, _ => go_simp
  | 2, _ => go_simp

theorem Sum3 (a b c : Int) (w : World) (n : Nat) (h1 : -9223372036854775808 ≤ a ∧ a ≤ 9223372036854775807) (h2 : -9223372036854775808 ≤ b ∧ b ≤ 9223372036854775807) (h3 : -9223372036854775808 ≤ c ∧ c ≤ 9223372036854775807)
    (v : Int) (f : Bool) (hv : sumV [a, b, c] = v) (hf : sumB [a, b, c] = f) :
    Calls Try.prog 17 #[.slice (some ⟨w.heap.size, 0, none⟩) 3 3] (w.alloc (.cells #[.int .i64 a, .int .i64 b, .int .i64 c] n)) fun e w' => e = .returned (.tuple #[.int .i64 v, .bool f]) ∧ Below (w.heap.size + 1) (w.alloc (.cells #[.int .i64 a, .int .i64 b, .int .i64 c] n)) w' := by
  subst hv hf
  have h := Sum_any (.slice (some ⟨w.heap.size, 0, none⟩) 3 3) [a, b, c] (by simp) (fun j hj => by
    match j, hj with
    | 0, _ => simpa using h1
    | 1, _ => simpa using h2
    | 2, _ => simpa using h3) (w.alloc (.cells #[.int .i64 a, .int .i64 b, .int .i64 c] n)) (by rw [World.size_alloc]; exact ints3 w a b c n)
  rw [World.size_alloc] at h
  exact h

set_option maxRecDepth 100000 in
set_option maxHeartbeats 1000000 in
theorem works_any (w : World) : Calls Try.prog 16 #[] w fun e w' => e = .returned (.bool true) ∧ Below w.heap.size w w' := by
  go_enter Try.func16, Try.ntmps16
  go_wp2_with fail
  refine (Add_no _ _ (by decide) (by decide) (by decide) (by decide) (by decide) _).mono ?_
  rintro e w1 ⟨rfl, hb1⟩
  go_wp2_with fail
  refine (Add_yes _ _ (by decide) _).mono ?_
  rintro e w2 ⟨rfl, hb2⟩
  go_wp2_with fail
  refine (Mul_no _ _ (by decide) (by decide) (by decide) (by decide) (by decide) (by decide) (by decide) _).mono ?_
  rintro e w3 ⟨rfl, hb3⟩
  go_wp2_with fail
  refine (Mul_no _ _ (by decide) (by decide) (by decide) (by decide) (by decide) (by decide) (by decide) _).mono ?_
  rintro e w4 ⟨rfl, hb4⟩
  go_wp2_with fail
  refine (Mul_yes _ _ (by decide) (by decide) (by decide) (by decide) (by decide) (by decide) (by decide) _).mono ?_
  rintro e w5 ⟨rfl, hb5⟩
  go_wp2_with fail
  refine (Sum3 _ _ _ _ _ (by decide) (by decide) (by decide) 0 false (by decide) (by decide)).mono ?_
  rintro e w6 ⟨rfl, hb6⟩
  go_wp2_with fail
  refine (Sum3 _ _ _ _ _ (by decide) (by decide) (by decide) 6 true (by decide) (by decide)).mono ?_
  rintro e w7 ⟨rfl, hb7⟩
  have hB5 : Below w.heap.size w w5 := (((hb1.trans (hb2.mono hb1.size)).trans (hb3.mono (by have := hb1.size; have := hb2.size; omega))).trans (hb4.mono (by have := hb1.size; have := hb2.size; have := hb3.size; omega))).trans (hb5.mono (by have := hb1.size; have := hb2.size; have := hb3.size; have := hb4.size; omega))
  have hB6 : Below w.heap.size w w6 := (hB5.alloc hB5.size _).trans (hb6.mono (Nat.le_succ_of_le hB5.size))
  have hB7 : Below w.heap.size w w7 := (hB6.alloc hB6.size _).trans (hb7.mono (Nat.le_succ_of_le hB6.size))
  clear hb1 hb2 hb3 hb4 hb5 hb6 hb7 hB5 hB6
  go_wp2_with (first
    | (go_at_call 21; refine (none_any _ _ _).mono ?_; rintro e w' ⟨rfl, rfl⟩)
    | (go_at_call 22; refine (is_any _ _ _ _).mono ?_; rintro e w' ⟨rfl, rfl⟩)
    | (go_at_call 19; refine (Clamp_any _ _ _ _).mono ?_; rintro e w' ⟨rfl, rfl⟩))
  go_ret
  exact ⟨rfl, hB7⟩

end Go.Proofs.Ythipniehnniibaa.Num
