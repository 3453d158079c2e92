/-
  The document's answers: a number's bytes, Put, Get, PutText.
-/
import Derived.Test.YtjjmhkafhbeabaaOctGet
namespace Go.Proofs.Ytjjmhkafhbeabaa.Oct
open Go.RowKit Go.Sort Go.Proofs.Ytjjmhkafhbeabaa.Mem Go.Proofs.Ytjjmhkafhbeabaa.Route
set_option linter.unusedVariables false
attribute [local go_sem] str_append str_from str_to

theorem ret_sb {a b : Bs} {c d : Bool} (h : a = b) (h2 : c = d) : Ending.returned (.tuple #[.string (str a), .bool c]) = .returned (.tuple #[.string (str b), .bool d]) := by rw [h, h2]
theorem ret_si2 {a b : Bs} {c d : Int} (h : a = b) (h2 : c = d) : Ending.returned (.tuple #[.string (str a), .int .i64 c]) = .returned (.tuple #[.string (str b), .int .i64 d]) := by rw [h, h2]
theorem div_next (n j : Nat) : n / 2 ^ (8 * (j + 1)) = n / 2 ^ (8 * j) / 256 := by rw [Nat.div_div_eq_div_mul, Nat.mul_add, Nat.pow_add]
theorem ofNat_toNat {r : Nat} (h : r < 256) : ((UInt8.ofNat r).toNat : Int) = (r : Int) := by
  rw [UInt8.toNat_ofNat']
  omega
/-- One byte as a text. -/
theorem one_text (w : World) (b : UInt8) : (convert 49 9 (.slice (some ⟨w.heap.size, 0, none⟩) 1 1)).run Try.prog (w.alloc (.cells #[.int .u8 (b.toNat : Int)] 5)) = .ok (.string (str [b])) (w.alloc (.cells #[.int .u8 (b.toNat : Int)] 5)) :=
  cells_text (P := Try.prog) _ 49 9 5 Try.underlying49 Try.underlying5 Try.underlying9 w.heap.size 1 1 [b] rfl fun j c hc => by
    match j, hc with
    | 0, hc =>
      cases hc
      exact (AtL.new w 5 [u8V b]).get rfl
set_option maxRecDepth 100000 in
set_option maxHeartbeats 4000000 in
theorem refLaid_any (n k : Nat) (hn : n < 18446744073709551616) (h8 : k ≤ 8) (w : World) :
    Calls Try.prog 29 #[.int .u64 (n : Int), .int .i64 (k : Int)] w fun e w' => e = .returned (.tuple #[.string (str (laidL n k)), .bool (decide (n < 2 ^ (8 * k)))]) ∧ Below w.heap.size w w' := by
  have h8' : (k : Int) ≤ 8 := by omega
  have hfin := Lib.hid (show (n / 2 ^ (8 * k) = 0) ↔ n < 2 ^ (8 * k) by
    rw [Nat.div_eq_zero_iff]
    have := Nat.pow_pos (n := 8 * k) (show 0 < 2 by decide)
    omega)
  go_enter Try.func29, Try.ntmps29
  go_wp2_with fail
  go_loopw [0, 6, 7] (fun v s c wr => ∃ j : Nat, c = .int .i64 (j : Int) ∧ j ≤ k ∧ v = .int .u64 ((n / 2 ^ (8 * j) : Nat) : Int) ∧ s = .string (str (laidL n j)) ∧ Hid (Below w.heap.size w wr))
    (fun _ _ c _ => k - (intOf c).toNat)
  case atStart => exact ⟨0, rfl, Nat.zero_le _, by simp, rfl, Lib.hid (Below.refl _ _)⟩
  case round =>
    obtain ⟨j, rfl, hjk, rfl, rfl, hB⟩ := hrel
    have hV64 : n / 2 ^ (8 * j) < 18446744073709551616 := Nat.lt_of_le_of_lt (Nat.div_le_self _ _) hn
    by_cases hlt : j < k
    · have hlt' : (j : Int) < (k : Int) := by omega
      have hlj : (laidL n j).length < 9 := by rw [laidL_length]; omega
      have hnx := Lib.hid (div_next n j)
      have hla := Lib.hid (show laidL n (j + 1) = UInt8.ofNat (n / 2 ^ (8 * j) % 256) :: laidL n j from rfl)
      obtain ⟨L, hL⟩ : ∃ L, laidL n j = L := ⟨_, rfl⟩
      rw [hL] at hla hlj ⊢
      obtain ⟨V, hV⟩ : ∃ V, n / 2 ^ (8 * j) = V := ⟨_, rfl⟩
      rw [hV] at hnx hla hV64 ⊢
      obtain ⟨r, hr⟩ : ∃ r, V % 256 = r := ⟨_, rfl⟩
      have hr256 : r < 256 := by omega
      rw [hr] at hla
      have hcv := one_text wr (UInt8.ofNat r)
      rw [ofNat_toNat hr256] at hcv
      have e1 : (V : Int) % 256 = (r : Int) := by omega
      have e1' : (V : Int).tmod 256 = (r : Int) := by rw [Int.tmod_eq_emod_of_nonneg (by omega)]; omega
      obtain ⟨q, hq⟩ : ∃ q, V / 256 = q := ⟨_, rfl⟩
      rw [hq] at hnx
      have e2 : (V : Int) / 256 = (q : Int) := by omega
      have e2' : (V : Int).tdiv 256 = (q : Int) := by rw [Int.tdiv_eq_ediv_of_nonneg (by omega)]; omega
      have hri : (r : Int) ≤ 255 := by omega
      have hqi : (q : Int) ≤ 18446744073709551615 := by omega
      have hB' := Lib.hid (hB.out.alloc hB.out.size (.cells #[.int .u8 (r : Int)] 5))
      have hll : (L.length : Int) < 9 := by omega
      clear hL hV hr hq hV64 hr256 hB hlj
      go_wp2_with fail
      go_roundw
      case rel => exact ⟨j + 1, by go_num, by omega, by rw [hnx.out], by rw [hla.out], hB'⟩
      case measure => simp [intOf]; omega
    · obtain rfl : j = k := by omega
      clear hlt
      have hf := hfin.out
      obtain ⟨V, hV⟩ : ∃ V, n / 2 ^ (8 * j) = V := ⟨_, rfl⟩
      rw [hV] at hf hV64 ⊢
      have hr := Lib.hid (show ((V : Int) == 0) = decide (n < 2 ^ (8 * j)) by
        rw [Bool.eq_iff_iff, beq_iff_eq, decide_eq_true_eq, ← hf]
        omega)
      clear hf hfin hV hV64
      go_wp2
      go_ret2
      exact ⟨ret_sb rfl hr.out, hB.out⟩

set_option maxRecDepth 100000 in
set_option maxHeartbeats 4000000 in
theorem refPut_any (s : Bs) (n : Nat) (k : Int) (hn : n < 18446744073709551616) (hs : s.length ≤ 281474976710000) (w : World) :
    Calls Try.prog 30 #[.string (str s), .int .u64 (n : Int), .int .i64 k] w fun e w' => e = .returned (.tuple #[.string (str (putB s n k)), .int .i64 (putE n k)]) ∧ Below w.heap.size w w' := by
  by_cases h1 : k < 1
  · have hw : isW k = false := by simp [isW]; omega
    have hE := Lib.hid (show putE n k = 2 by simp [putE, hw])
    have hB := Lib.hid (show putB s n k = [] by simp [putB, hw])
    clear hw
    go_enter Try.func30, Try.ntmps30
    go_wp2
    go_ret2
    exact ⟨ret_si2 hB.out.symm hE.out.symm, Below.refl _ _⟩
  by_cases h8 : 8 < k
  · have hw : isW k = false := by simp [isW]; omega
    have hE := Lib.hid (show putE n k = 2 by simp [putE, hw])
    have hB := Lib.hid (show putB s n k = [] by simp [putB, hw])
    clear hw
    go_enter Try.func30, Try.ntmps30
    go_wp2
    go_ret2
    exact ⟨ret_si2 hB.out.symm hE.out.symm, Below.refl _ _⟩
  obtain ⟨K, rfl⟩ : ∃ K : Nat, k = K := ⟨k.toNat, by omega⟩
  have hw : isW (K : Int) = true := by simp [isW]; omega
  have hla := refLaid_any n K hn (by omega) w
  have hll : (laidL n K).length < 9 := by rw [laidL_length]; omega
  obtain ⟨L, hL⟩ : ∃ L, laidL n K = L := ⟨_, rfl⟩
  by_cases hlt : n < 2 ^ (8 * K)
  · have hE := Lib.hid (show putE n K = 0 by simp [putE, hw, hlt])
    have hB := Lib.hid (show putB s n K = s ++ L by simp [putB, hw, hlt, hL])
    rw [decide_eq_true hlt, hL] at hla
    rw [hL] at hll
    have hsum : ¬ 9223372036854775807 < s.length + L.length := by omega
    clear hw hlt hL
    go_enter Try.func30, Try.ntmps30
    go_wp2_with fail
    refine hla.mono ?_
    rintro e w1 ⟨rfl, hb1⟩
    go_wp2
    go_ret2
    exact ⟨ret_si2 hB.out.symm hE.out.symm, hb1⟩
  · have hE := Lib.hid (show putE n K = 3 by simp [putE, hw, hlt])
    have hB := Lib.hid (show putB s n K = [] by simp [putB, hw, hlt])
    rw [decide_eq_false hlt] at hla
    clear hw hlt hL hll
    go_enter Try.func30, Try.ntmps30
    go_wp2_with fail
    refine hla.mono ?_
    rintro e w1 ⟨rfl, hb1⟩
    go_wp2
    go_ret2
    exact ⟨ret_si2 hB.out.symm hE.out.symm, hb1⟩

set_option maxRecDepth 100000 in
set_option maxHeartbeats 4000000 in
theorem refPutText_any (s t : Bs) (hs : s.length ≤ 281474976710000) (ht : t.length ≤ 281474976710000) (w : World) :
    Calls Try.prog 10 #[.string (str s), .string (str t)] w fun e w' => e = .returned (.tuple #[.string (str (ptB s t)), .int .i64 (ptE t)]) ∧ Below w.heap.size w w' := by
  by_cases hlt : t.length < 65536
  · have hla := refLaid_any t.length 2 (by omega) (by decide) w
    have hll : (laidL t.length 2).length < 9 := by rw [laidL_length]; omega
    obtain ⟨L, hL⟩ : ∃ L, laidL t.length 2 = L := ⟨_, rfl⟩
    rw [hL] at hla hll
    have hE := Lib.hid (show ptE t = 0 by simp [ptE, hlt])
    have hB := Lib.hid (show ptB s t = s ++ (L ++ t) by simp [ptB, hlt, hL])
    have hsum : ¬ 9223372036854775807 < s.length + L.length := by omega
    have hsum2 : ¬ 9223372036854775807 < (s ++ L).length + t.length := by rw [List.length_append]; omega
    have ht' : (t.length : Int) ≤ 65535 := by omega
    clear hlt hL
    go_enter Try.func10, Try.ntmps10
    go_wp2_with fail
    refine hla.mono ?_
    rintro e w1 ⟨rfl, hb1⟩
    go_wp2
    go_ret2
    exact ⟨ret_si2 hB.out.symm hE.out.symm, hb1⟩
  · have hE := Lib.hid (show ptE t = 3 by simp [ptE, hlt])
    have hB := Lib.hid (show ptB s t = [] by simp [ptB, hlt])
    have ht' : 65535 < (t.length : Int) := by omega
    clear hlt
    go_enter Try.func10, Try.ntmps10
    go_wp2
    go_ret2
    exact ⟨ret_si2 hB.out.symm hE.out.symm, Below.refl _ _⟩

end Go.Proofs.Ytjjmhkafhbeabaa.Oct
