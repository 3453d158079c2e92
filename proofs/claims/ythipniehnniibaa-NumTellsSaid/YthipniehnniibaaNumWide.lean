/-
  Contracts of the answer's own wide numbers (package consignref01).
-/
import Derived.Test.YthipniehnniibaaNumSum
import Derived.RegionTactic
import Derived.BigRegion
namespace Go.Proofs.Ythipniehnniibaa.Num
open Go.RowKit
set_option linter.unusedVariables false

set_option maxRecDepth 100000 in
set_option maxHeartbeats 2000000 in
theorem carry_any (a b c d : Int) (w : World) (a1 : 0 ≤ a) (a2 : a ≤ 1099511627776) (b1 : 0 ≤ b) (b2 : b ≤ 1099511627776) (c1 : 0 ≤ c) (c2 : c ≤ 1099511627776) (d1 : 0 ≤ d) (d2 : d ≤ 1099511627776) :
    Calls Try.prog 25 #[.agg #[.int .u64 a, .int .u64 b, .int .u64 c, .int .u64 d]] w fun e w' => e = .returned (.agg #[.int .u64 (a % 4294967296), .int .u64 ((b + a / 4294967296) % 4294967296), .int .u64 ((c + (b + a / 4294967296) / 4294967296) % 4294967296), .int .u64 (d + (c + (b + a / 4294967296) / 4294967296) / 4294967296)]) ∧ Below w.heap.size w w' := by
  go_enter Try.func25, Try.ntmps25
  go_wp2
  refine wp_loop_rounds 4 ?_
  rw [rounds_succ]
  go_wp2
  go_region
  all_goals go_wp2
  all_goals rw [rounds_succ]
  all_goals go_wp2
  all_goals go_region
  all_goals go_wp2
  all_goals rw [rounds_succ]
  all_goals go_wp2
  all_goals go_region
  all_goals go_wp2
  all_goals rw [rounds_succ]
  all_goals go_wp2
  all_goals
    refine bodyPost_ret (v := .agg #[.int .u64 (a % 4294967296), .int .u64 ((b + a / 4294967296) % 4294967296), .int .u64 ((c + (b + a / 4294967296) / 4294967296) % 4294967296), .int .u64 (d + (c + (b + a / 4294967296) / 4294967296) / 4294967296)]) (by simp [results, Try.results25, go_sem]) rfl ⟨rfl, ?_⟩
  all_goals exact ((((Below.refl _ _).alloc (Nat.le_refl _) _).alloc (by simp) _).drew.drew.drew)

/-- A wide number's value in memory: its sign, and four parts. -/
def wide (s : Bool) (a b c d : Int) : Value := .agg #[.bool s, .int .u64 a, .int .u64 b, .int .u64 c, .int .u64 d]

/-- Is one magnitude of two parts less than another? -/
def lessB (a0 a1 b0 b1 : Int) : Bool := decide (a1 < b1 ∨ (a1 = b1 ∧ a0 < b0))

set_option maxRecDepth 100000 in
set_option maxHeartbeats 2000000 in
theorem less1 (a0 a1 b0 b1 : Int) (w : World) (h : a1 ≠ b1) :
    Calls Try.prog 26 #[.agg #[.int .u64 a0, .int .u64 a1, .int .u64 0, .int .u64 0], .agg #[.int .u64 b0, .int .u64 b1, .int .u64 0, .int .u64 0]] w fun e w' => e = .returned (.bool (lessB a0 a1 b0 b1)) ∧ Below w.heap.size w w' := by
  have t1 : (a1 != b1) = true := by rw [bne_iff_ne]; exact h
  have hh := Lib.hid (show lessB a0 a1 b0 b1 = decide (a1 < b1) by simp [lessB, h])
  clear h
  go_enter Try.func26, Try.ntmps26
  go_wp2
  refine wp_loop_rounds 5 ?_
  rw [rounds_succ]
  go_wp2
  go_quiet (fail)
  go_wp2
  rw [rounds_succ]
  go_wp2
  go_quiet (fail)
  go_wp2
  rw [rounds_succ]
  go_wp2
  go_quiet (fail)
  go_wp2
  go_quiet (fail)
  go_wp2
  go_ret
  exact ⟨ret_bool hh.out.symm, by repeat (first | exact Below.refl _ _ | refine below_drewN ?_ _ | refine Below.drew ?_ | refine Below.alloc ?_ (by simp) _)⟩

set_option maxRecDepth 100000 in
set_option maxHeartbeats 2000000 in
theorem less2 (a0 a1 b0 b1 : Int) (w : World) (h1 : a1 = b1) (h : a0 ≠ b0) :
    Calls Try.prog 26 #[.agg #[.int .u64 a0, .int .u64 a1, .int .u64 0, .int .u64 0], .agg #[.int .u64 b0, .int .u64 b1, .int .u64 0, .int .u64 0]] w fun e w' => e = .returned (.bool (lessB a0 a1 b0 b1)) ∧ Below w.heap.size w w' := by
  subst h1
  have t1 : (a0 != b0) = true := by rw [bne_iff_ne]; exact h
  have hh := Lib.hid (show lessB a0 a1 b0 a1 = decide (a0 < b0) by simp [lessB])
  clear h
  go_enter Try.func26, Try.ntmps26
  go_wp2
  refine wp_loop_rounds 5 ?_
  rw [rounds_succ]
  go_wp2
  go_quiet (fail)
  go_wp2
  rw [rounds_succ]
  go_wp2
  go_quiet (fail)
  go_wp2
  rw [rounds_succ]
  go_wp2
  go_quiet (fail)
  go_wp2
  rw [rounds_succ]
  go_wp2
  go_quiet (fail)
  go_wp2
  go_quiet (fail)
  go_wp2
  go_ret
  exact ⟨ret_bool hh.out.symm, by repeat (first | exact Below.refl _ _ | refine below_drewN ?_ _ | refine Below.drew ?_ | refine Below.alloc ?_ (by simp) _)⟩

set_option maxRecDepth 100000 in
set_option maxHeartbeats 2000000 in
theorem less3 (a0 a1 b0 b1 : Int) (w : World) (h1 : a1 = b1) (h : a0 = b0) :
    Calls Try.prog 26 #[.agg #[.int .u64 a0, .int .u64 a1, .int .u64 0, .int .u64 0], .agg #[.int .u64 b0, .int .u64 b1, .int .u64 0, .int .u64 0]] w fun e w' => e = .returned (.bool (lessB a0 a1 b0 b1)) ∧ Below w.heap.size w w' := by
  subst h1 h
  have hh := Lib.hid (show lessB a0 a1 a0 a1 = false by simp [lessB])
  go_enter Try.func26, Try.ntmps26
  go_wp2
  refine wp_loop_rounds 5 ?_
  rw [rounds_succ]
  go_wp2
  go_quiet (fail)
  go_wp2
  rw [rounds_succ]
  go_wp2
  go_quiet (fail)
  go_wp2
  rw [rounds_succ]
  go_wp2
  go_quiet (fail)
  go_wp2
  rw [rounds_succ]
  go_wp2
  go_quiet (fail)
  go_wp2
  rw [rounds_succ]
  go_wp2
  go_ret
  exact ⟨ret_bool hh.out.symm, by repeat (first | exact Below.refl _ _ | refine below_drewN ?_ _ | refine Below.drew ?_ | refine Below.alloc ?_ (by simp) _)⟩

theorem less_any (a0 a1 b0 b1 : Int) (w : World) :
    Calls Try.prog 26 #[.agg #[.int .u64 a0, .int .u64 a1, .int .u64 0, .int .u64 0], .agg #[.int .u64 b0, .int .u64 b1, .int .u64 0, .int .u64 0]] w fun e w' => e = .returned (.bool (lessB a0 a1 b0 b1)) ∧ Below w.heap.size w w' := by
  by_cases h1 : a1 = b1
  · by_cases h0 : a0 = b0
    · exact less3 a0 a1 b0 b1 w h1 h0
    · exact less2 a0 a1 b0 b1 w h1 h0
  · exact less1 a0 a1 b0 b1 w h1

set_option maxRecDepth 100000 in
set_option maxHeartbeats 2000000 in
theorem Of_neg (n : Int) (w : World) (h1 : -9223372036854775808 ≤ n) (h2 : n < 0) :
    Calls Try.prog 8 #[.int .i64 n] w fun e w' => e = .returned (wide true ((-n) % 4294967296) ((-n) / 4294967296) 0 0) ∧ w' = (w.alloc (.cells #[.bool true, .int .u64 ((-n) % 4294967296), .int .u64 ((-n) / 4294967296), .int .u64 0, .int .u64 0] 29)).alloc (.cells #[.bool true, .int .u64 ((-n) % 4294967296), .int .u64 ((-n) / 4294967296), .int .u64 0, .int .u64 0] 29) := by
  have t : decide (n < 0) = true := by simpa using h2
  obtain ⟨u, hu⟩ : ∃ u, IntKind.u64.wrap n = u := ⟨_, rfl⟩
  obtain ⟨v, hv⟩ : ∃ v, IntKind.u64.wrap (-u) = v := ⟨_, rfl⟩
  have e : v = -n := by rw [← hv, ← hu]; simp [IntKind.wrap, IntKind.signed, IntKind.bits]; omega
  have he := Lib.hid e
  have v1 : 0 ≤ v := by omega
  have v2 : v ≤ 9223372036854775808 := by omega
  clear e
  go_enter Try.func8, Try.ntmps8
  go_wp2
  refine bodyPost_ret (v := wide true (v % 4294967296) (v / 4294967296) 0 0) (by simp [results, Try.results8, go_sem, wide]) rfl ⟨by rw [he.out], by rw [he.out]⟩

set_option maxRecDepth 100000 in
set_option maxHeartbeats 2000000 in
theorem Of_pos (n : Int) (w : World) (h1 : 0 ≤ n) (h2 : n ≤ 9223372036854775807) :
    Calls Try.prog 8 #[.int .i64 n] w fun e w' => e = .returned (wide false (n % 4294967296) (n / 4294967296) 0 0) ∧ w' = (w.alloc (.cells #[.bool false, .int .u64 (n % 4294967296), .int .u64 (n / 4294967296), .int .u64 0, .int .u64 0] 29)).alloc (.cells #[.bool false, .int .u64 (n % 4294967296), .int .u64 (n / 4294967296), .int .u64 0, .int .u64 0] 29) := by
  have t : decide (n < 0) = false := by simpa using h1
  go_enter Try.func8, Try.ntmps8
  go_wp2
  refine bodyPost_ret (v := wide false (n % 4294967296) (n / 4294967296) 0 0) (by simp [results, Try.results8, go_sem, wide]) rfl ⟨rfl, rfl⟩

end Go.Proofs.Ythipniehnniibaa.Num
