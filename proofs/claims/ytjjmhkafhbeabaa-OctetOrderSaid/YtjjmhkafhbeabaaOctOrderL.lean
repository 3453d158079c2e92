/-
  OctetOrder: numbers in as many bytes are ordered as their bytes are; what is put stands behind what was there.
-/
import Derived.Test.YtjjmhkafhbeabaaOctTellsL
namespace Go.Proofs.Ytjjmhkafhbeabaa.Oct
open Go.RowKit Go.Sort Go.Proofs.Ytjjmhkafhbeabaa.Mem Go.Proofs.Ytjjmhkafhbeabaa.Route
set_option linter.unusedVariables false
attribute [local go_sem] str_append str_from str_to

set_option maxRecDepth 100000 in
set_option maxHeartbeats 4000000 in
theorem order_walk (s : Bs) (a b : Nat) (k : Nat) (ha : a < 18446744073709551616) (hb : b < 18446744073709551616) (hk : k < 256) (hs : s.length ≤ 281474976700000) (w : World) :
    Calls Try.prog 7 #[.string (str s), .agg #[.int .u64 (a : Int), .int .u64 (b : Int)], .int .u8 (k : Int)] w fun e w' => e = .returned (.bool true) ∧ Below w.heap.size w w' := by
  obtain ⟨W, hW⟩ : ∃ W, 1 + k % 8 = W := ⟨_, rfl⟩
  have hW1 : 1 ≤ W ∧ W ≤ 8 := by omega
  have ekr : (k : Int).tmod 8 = ((k % 8 : Nat) : Int) := by rw [Int.tmod_eq_emod_of_nonneg (by omega)]; rfl
  go_enter Try.func7, Try.ntmps7
  go_upto_region 1 with fail
  go_quiet (fail)
  go_wp2_with fail
  refine (works_any _).mono ?_
  rintro e w1 ⟨rfl, hb1⟩
  have hB1 : Below w.heap.size w w1 := below_drewN nq ((Below.refl w.heap.size w).alloc (Nat.le_refl _) _) |>.trans (hb1.mono (by simp))
  have hz1 := hB1.size
  clear hb1
  go_upto_region 7 with fail
  have q1 : 1 + (k : Int) % 8 = (W : Int) := by omega
  obtain ⟨X, hX⟩ : ∃ X, a / 2 ^ (8 * (8 - W)) = X := ⟨_, rfl⟩
  obtain ⟨Y, hY⟩ : ∃ Y, b / 2 ^ (8 * (8 - W)) = Y := ⟨_, rfl⟩
  have q2 : (a : Int) / 2 ^ (8 * (8 - W)) = (X : Int) := by rw [← hX]; simp
  have q3 : (b : Int) / 2 ^ (8 * (8 - W)) = (Y : Int) := by rw [← hY]; simp
  have hXl : X < 2 ^ (8 * W) := by
    rw [← hX, Nat.div_lt_iff_lt_mul (Nat.pow_pos (by decide)), ← Nat.pow_add, show 8 * W + 8 * (8 - W) = 64 by omega]
    exact ha
  have hYl : Y < 2 ^ (8 * W) := by
    rw [← hY, Nat.div_lt_iff_lt_mul (Nat.pow_pos (by decide)), ← Nat.pow_add, show 8 * W + 8 * (8 - W) = 64 by omega]
    exact hb
  have hX64 : X < 18446744073709551616 := by rw [← hX]; exact Nat.lt_of_le_of_lt (Nat.div_le_self _ _) ha
  have hY64 : Y < 18446744073709551616 := by rw [← hY]; exact Nat.lt_of_le_of_lt (Nat.div_le_self _ _) hb
  simp only [hW, q1, q2, q3]
  have hiw : isW (W : Int) = true := by simp [isW]; omega
  have hp1 := fun V => Put_any s X W hX64 (by omega) V
  have hp2 := fun V => Put_any s Y W hY64 (by omega) V
  have hAl := laidL_length X W
  have hBl := laidL_length Y W
  have hAn := num_back hXl
  have hless := less_laid s hXl hYl
  have hinj : laidL X W = laidL Y W → X = Y := laid_inj hXl hYl
  have hcong : X = Y → laidL X W = laidL Y W := fun h => by rw [h]
  simp only [putB, putE, hiw, hXl, hYl, if_true, Int.toNat_natCast] at hp1 hp2
  obtain ⟨A, hA⟩ : ∃ A, laidL X W = A := ⟨_, rfl⟩
  obtain ⟨B, hB⟩ : ∃ B, laidL Y W = B := ⟨_, rfl⟩
  simp only [hA] at hp1 hAl hAn hless hinj hcong
  simp only [hB] at hp2 hBl hless hinj hcong
  have hg1 := fun V => Get_any (s ++ A) s.length W (by rw [List.length_append]; omega) V
  have hg2 := fun V => Get_any (s ++ A) (s.length + 1) W (by rw [List.length_append]; omega) V
  have ho1 : getOk (s ++ A) s.length W = true := by simp [getOk, hAl]; omega
  have hn1 : getN (s ++ A) s.length W = X := by
    unfold getN
    rw [ho1, if_pos rfl, Int.toNat_natCast, Int.toNat_natCast, List.drop_left' rfl, List.take_of_length_le (by omega), hAn]
  have ho2 : getOk (s ++ A) (s.length + 1) W = false := by simp [getOk, hAl]; omega
  have hn2 : getN (s ++ A) (s.length + 1) W = 0 := by simp [getN, ho2]
  simp only [ho1, hn1] at hg1
  simp only [ho2, hn2] at hg2
  have hsl : (s.length : Int) ≤ 281474976700000 := by omega
  have hWi : (W : Int) ≤ 8 := by omega
  have hW0 : (0 : Int) < W := by omega
  have hfin := Lib.hid (show (((X : Int) == (Y : Int)) == (s ++ A == s ++ B)) = true by
    by_cases h : X = Y
    · rw [hcong h, h]
      simp
    · have h1 : ((X : Int) == (Y : Int)) = false := by
        rw [beq_eq_false_iff_ne]
        omega
      have h2 : (s ++ A == s ++ B) = false := by
        rw [beq_eq_false_iff_ne]
        intro h2
        exact h (hinj (List.append_cancel_left h2))
      rw [h1, h2]
      rfl)
  replace hp1 := Lib.hid hp1
  replace hp2 := Lib.hid hp2
  replace hg1 := Lib.hid hg1
  replace hg2 := Lib.hid hg2
  clear hcong hinj q1 q2 q3 hW hX hY hXl hYl hX64 hY64 hiw hAn ho1 hn1 ho2 hn2 hA hB ha hb hk hs ekr hW1
  go_wp2_with fail
  refine (hp1.out _).mono ?_
  rintro e w2 ⟨rfl, hb2⟩
  have hB2 := hB1.trans (hb2.mono hz1)
  have hz2 := Nat.le_trans hz1 hb2.size
  clear hb2 hB1 hz1
  go_wp2_with fail
  refine (hp2.out _).mono ?_
  rintro e w3 ⟨rfl, hb3⟩
  have hB3 := hB2.trans (hb3.mono hz2)
  have hz3 := Nat.le_trans hz2 hb3.size
  clear hb3 hB2 hz2
  go_wp2_with fail
  refine (hg1.out _).mono ?_
  rintro e w4 ⟨rfl, rfl⟩
  go_wp2_with fail
  refine (hg2.out _).mono ?_
  rintro e w5 ⟨rfl, rfl⟩
  go_wp2
  go_ret
  exact ⟨Route.ret_bool hfin.out, hB3⟩

end Go.Proofs.Ytjjmhkafhbeabaa.Oct
