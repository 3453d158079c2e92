/-
  The program's Get.
-/
import Derived.Test.YtjjmhkafhbeabaaOctPut
namespace Go.Proofs.Ytjjmhkafhbeabaa.Oct
open Go.RowKit Go.Sort Go.Proofs.Ytjjmhkafhbeabaa.Mem Go.Proofs.Ytjjmhkafhbeabaa.Route
set_option linter.unusedVariables false

/-- The bytes from the place o on, j of them, as a number. -/
def numAt (s : Bs) (o j : Nat) : Nat := numL ((s.drop o).take j)
theorem numAt_next {s : Bs} {o j : Nat} (h : o + j < s.length) : numAt s o (j + 1) = numAt s o j * 256 + (s[o + j]'h).toNat := by
  unfold numAt
  rw [List.take_add_one, List.getElem?_drop, List.getElem?_eq_getElem h, Option.toList_some, num_snoc]
theorem numAt_lt (s : Bs) (o j : Nat) : numAt s o j < 2 ^ (8 * j) := by
  refine Nat.lt_of_lt_of_le (num_lt _) (Nat.pow_le_pow_right (by decide) ?_)
  rw [List.length_take]
  omega
theorem numAt_lt7 {s : Bs} {o j : Nat} (h : j < 8) : numAt s o j < 72057594037927936 :=
  Nat.lt_of_lt_of_le (numAt_lt s o j) (Nat.le_trans (Nat.pow_le_pow_right (by decide) (show 8 * j ≤ 56 by omega)) (by decide))
theorem ret_nb {a b : Nat} {c d : Bool} (h : a = b) (h2 : c = d) : Ending.returned (.tuple #[.int .u64 (a : Int), .bool c]) = .returned (.tuple #[.int .u64 (b : Int), .bool d]) := by rw [h, h2]
theorem index_text (w : World) (l : Bs) (i : Nat) (h : i < l.length) : (Instr.index 9 (.string (str l)) (.int .i64 (i : Int))).run Try.prog w = .ok (.int .u8 ((l[i]'h).toNat : Int)) w := by
  rw [run_index_string w 9 (str l) .i64 (i : Int) Try.underlying9, dif_pos ⟨by omega, by rw [str_size]; omega⟩]
  congr 3
set_option maxRecDepth 100000 in
set_option maxHeartbeats 4000000 in
theorem Get_any (s : Bs) (o k : Int) (hs : s.length ≤ 9223372036854775807) (w : World) :
    Calls Try.prog 28 #[.string (str s), .int .i64 o, .int .i64 k] w fun e w' => e = .returned (.tuple #[.int .u64 (getN s o k : Int), .bool (getOk s o k)]) ∧ w' = w := by
  have hwd := isWidth_any k w
  have hiw : isW k = true → 1 ≤ k ∧ k ≤ 8 := fun h => by simpa [isW] using h
  have hex : getOk s o k = true ↔ 1 ≤ k ∧ k ≤ 8 ∧ 0 ≤ o ∧ o ≤ (s.length : Int) - k := by simp [getOk]
  cases hw : isW k
  · have hO : getOk s o k = false := by
      rw [← Bool.not_eq_true, hex]
      simp [isW] at hw
      omega
    have hN : getN s o k = 0 := by simp [getN, hO]
    rw [hO, hN]
    rw [hw] at hwd
    clear hex hiw hO hN hw
    go_enter Try.func28, Try.ntmps28
    go_wp2_with fail
    refine hwd.mono ?_
    rintro e w' ⟨rfl, rfl⟩
    go_wp2
    go_ret2
    exact ⟨rfl, rfl⟩
  rw [hw] at hwd
  obtain ⟨hk1, hk8⟩ := hiw hw
  have hsz : (s.length : Int) ≤ 9223372036854775807 := by omega
  have hs0 : (0 : Int) ≤ (s.length : Int) := by omega
  by_cases h0 : o < 0
  · have hO : getOk s o k = false := by
      rw [← Bool.not_eq_true, hex]
      omega
    have hN : getN s o k = 0 := by simp [getN, hO]
    rw [hO, hN]
    clear hex hiw hO hN hw
    go_enter Try.func28, Try.ntmps28
    go_wp2_with fail
    refine hwd.mono ?_
    rintro e w' ⟨rfl, rfl⟩
    go_wp2
    go_ret2
    exact ⟨rfl, rfl⟩
  by_cases h1 : (s.length : Int) - k < o
  · have hO : getOk s o k = false := by
      rw [← Bool.not_eq_true, hex]
      omega
    have hN : getN s o k = 0 := by simp [getN, hO]
    rw [hO, hN]
    clear hex hiw hO hN hw
    go_enter Try.func28, Try.ntmps28
    go_wp2_with fail
    refine hwd.mono ?_
    rintro e w' ⟨rfl, rfl⟩
    go_wp2
    go_ret2
    exact ⟨rfl, rfl⟩
  have hO : getOk s o k = true := hex.2 (by omega)
  obtain ⟨K, rfl⟩ : ∃ K : Nat, k = K := ⟨k.toNat, by omega⟩
  obtain ⟨O, rfl⟩ : ∃ O : Nat, o = O := ⟨o.toNat, by omega⟩
  have hN : getN s O K = numAt s O K := by simp [getN, hO, numAt]
  rw [hO, hN]
  have hfit : O + K ≤ s.length := by omega
  have hK8 : K ≤ 8 := by omega
  clear hex hiw hO hN hw
  go_enter Try.func28, Try.ntmps28
  go_wp2_with fail
  refine hwd.mono ?_
  rintro e w' ⟨rfl, rfl⟩
  go_wp2_with fail
  go_loopw [8, 26] (fun n c wr => ∃ j : Nat, c = .int .i64 (j : Int) ∧ j ≤ K ∧ n = .int .u64 (numAt s O j : Int) ∧ wr = w')
    (fun _ c _ => K - (intOf c).toNat)
  case atStart => exact ⟨0, rfl, Nat.zero_le _, rfl, rfl⟩
  case round =>
    obtain ⟨j, rfl, hjk, rfl, rfl⟩ := hrel
    by_cases hlt : j < K
    · have hij : O + j < s.length := by omega
      have hix := fun W => index_text W s (O + j) hij
      have hlt' : (j : Int) < (K : Int) := by omega
      have hnx := numAt_next (s := s) (o := O) (j := j) hij
      have h7 := numAt_lt7 (s := s) (o := O) (j := j) (by omega)
      obtain ⟨V, hV⟩ : ∃ V, numAt s O j = V := ⟨_, rfl⟩
      obtain ⟨b, hb⟩ : ∃ b, s[O + j]'hij = b := ⟨_, rfl⟩
      rw [hV] at hnx h7
      rw [hb] at hnx hix
      have hor := or_byte b h7
      have hVi : (V : Int) < 72057594037927936 := by omega
      have hcast : ((O + j : Nat) : Int) = (O : Int) + (j : Int) := by omega
      rw [hcast] at hix
      have hOj : (O : Int) + (j : Int) ≤ 9223372036854775807 := by omega
      have hx256 := b.toNat_lt
      obtain ⟨x, hx⟩ : ∃ x, b.toNat = x := ⟨_, rfl⟩
      rw [hx] at hnx hor hix hx256
      have hx1 : (x : Int) < 256 := by omega
      have hnx' := Lib.hid hnx
      rw [hV]
      clear hx hx256
      clear hcast hV hb hnx hwd hsz hs0 hk1 hk8 h0 h1 h7
      go_wp2_with fail
      go_roundw
      case rel => exact ⟨j + 1, by go_num, by omega, by rw [hnx'.out, Int.natCast_add, Int.natCast_mul]; rfl, trivial⟩
      case measure => simp [intOf]; omega
    · obtain rfl : j = K := by omega
      clear hlt
      go_wp2
      go_ret2
      exact ⟨rfl, rfl⟩

end Go.Proofs.Ytjjmhkafhbeabaa.Oct
