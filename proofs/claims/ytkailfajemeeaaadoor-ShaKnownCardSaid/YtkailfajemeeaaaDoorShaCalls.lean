/-
  The program's small functions of words: rotr, byteOf.
-/
import Derived.Test.YtkailfajemeeaaaDoorRow
import Derived.Test.YtkailfajemeeaaaDoorShaArr
namespace Go.Proofs.YtkailfajemeeaaaDoor.Sha
open Go.RowKit Go.Sort Go.Proofs.YtkailfajemeeaaaDoor.Mem Go.Proofs.YtkailfajemeeaaaDoor.Route
set_option linter.unusedVariables false

theorem low5 : ∀ n : Nat, n < 32 → 0 < n → bits .and .u64 (IntKind.u64.wrap (-(n : Int))) 31 = ((32 - n : Nat) : Int) := by decide +kernel
theorem rotr_comm (x : Wd) (n : Nat) : x <<< (32 - n) ||| x >>> n = rotr x n := by unfold rotr; exact BitVec.or_comm ..
theorem rl_any (x : Wd) (n : Nat) (h0 : 0 < n) (hn : n < 32) (w : World) : Calls Tryd.prog 34 #[.int .u32 (x.toNat : Int), .int .i64 (-(n : Int))] w fun e w' => e = .returned (.int .u32 ((rotr x n).toNat : Int)) ∧ w' = w := by
  have h5 := low5 n hn h0
  obtain ⟨m, hm⟩ : ∃ m, 32 - n = m := ⟨_, rfl⟩
  have hx := rotr_comm x n
  rw [hm] at h5 hx
  have hs : (32 : Int) - (m : Int) = (n : Int) := by omega
  have hx' := Lib.hid hx
  clear hx hm
  go_enter Tryd.func34, Tryd.ntmps34
  go_wp2
  rw [wd_shr, wd_shl, wd_or, hx'.out]
  go_ret
  exact ⟨rfl, rfl⟩
theorem protr_any (x : Wd) (n : Nat) (h0 : 0 < n) (hn : n < 32) (w : World) : Calls Tryd.prog 29 #[.int .u32 (x.toNat : Int), .int .i64 (n : Int)] w fun e w' => e = .returned (.int .u32 ((rotr x n).toNat : Int)) ∧ w' = w := by
  have h1 := rl_any x n h0 hn w
  go_enter Tryd.func29, Tryd.ntmps29
  go_wp2_with fail
  refine h1.mono ?_
  clear h1
  rintro e w' ⟨rfl, rfl⟩
  go_wp2
  go_ret
  exact ⟨rfl, rfl⟩
theorem byteOf32_any (x : Nat) (k i : Nat) (hk : k ≤ 4) (hi : i < k) (w : World) : Calls Tryd.prog 31 #[.int .u32 (x : Int), .int .i64 (k : Int), .int .i64 (i : Int)] w fun e w' => e = .returned (.int .u8 ((x / 2 ^ (8 * (k - 1 - i)) % 256 : Nat) : Int)) ∧ w' = w := by
  obtain ⟨m, hm⟩ : ∃ m, k - 1 - i = m := ⟨_, rfl⟩
  rw [hm]
  have hm8 : m < 4 := by omega
  have h1 : (k : Int) - 1 - (i : Int) = (m : Int) := by omega
  obtain ⟨q, hq⟩ : ∃ q, 8 * m = q := ⟨_, rfl⟩
  rw [hq]
  have hq8 : min q 32 = q := by omega
  have h2 : (8 : Int) * (m : Int) = (q : Int) := by omega
  clear hm hq
  go_enter Tryd.func31, Tryd.ntmps31
  go_wp2
  go_ret
  exact ⟨by simp, rfl⟩
theorem byteOf64_any (x : Nat) (k i : Nat) (hk : k ≤ 8) (hi : i < k) (w : World) : Calls Tryd.prog 30 #[.int .u64 (x : Int), .int .i64 (k : Int), .int .i64 (i : Int)] w fun e w' => e = .returned (.int .u8 ((x / 2 ^ (8 * (k - 1 - i)) % 256 : Nat) : Int)) ∧ w' = w := by
  obtain ⟨m, hm⟩ : ∃ m, k - 1 - i = m := ⟨_, rfl⟩
  rw [hm]
  have hm8 : m < 8 := by omega
  have h1 : (k : Int) - 1 - (i : Int) = (m : Int) := by omega
  obtain ⟨q, hq⟩ : ∃ q, 8 * m = q := ⟨_, rfl⟩
  rw [hq]
  have hq8 : q < 64 := by omega
  have h2 : (8 : Int) * (m : Int) = (q : Int) := by omega
  clear hm hq
  go_enter Tryd.func30, Tryd.ntmps30
  go_wp2
  go_ret
  exact ⟨by simp, rfl⟩

end Go.Proofs.YtkailfajemeeaaaDoor.Sha
