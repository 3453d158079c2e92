/-
  OctetKnown: the chapter's examples, the greatest numbers, texts at their limit, readers of nothing, and of none.
-/
import Derived.Test.YtjjmhkafhbeabaaOctWorks
namespace Go.Proofs.Ytjjmhkafhbeabaa.Oct
open Go.RowKit Go.Sort Go.Proofs.Ytjjmhkafhbeabaa.Mem Go.Proofs.Ytjjmhkafhbeabaa.Route
set_option linter.unusedVariables false
attribute [local go_sem] str_append str_from str_to

theorem put_all (w : World) : Calls Try.prog 27 #[.string ⟨#[]⟩, .int .u64 18446744073709551615, .int .i64 8] w fun e w' => e = .returned (.tuple #[.string ⟨#[255, 255, 255, 255, 255, 255, 255, 255]⟩, .int .i64 0]) ∧ Below w.heap.size w w' := by
  have h := Put_any [] 18446744073709551615 8 (by decide) (by decide) w
  rw [show putB [] 18446744073709551615 8 = [255, 255, 255, 255, 255, 255, 255, 255] by decide +kernel, show putE 18446744073709551615 8 = 0 by decide +kernel] at h
  exact h
theorem put_o7 (w : World) : Calls Try.prog 27 #[.string ⟨#[]⟩, .int .u64 72057594037927936, .int .i64 7] w fun e w' => e = .returned (.tuple #[.string ⟨#[]⟩, .int .i64 3]) ∧ Below w.heap.size w w' := by
  have h := Put_any [] 72057594037927936 7 (by decide) (by decide) w
  rw [show putB [] 72057594037927936 7 = [] by decide +kernel, show putE 72057594037927936 7 = 3 by decide +kernel] at h
  exact h
theorem put_a0 (w : World) : Calls Try.prog 27 #[.string ⟨#[]⟩, .int .u64 1152921504606846976, .int .i64 0] w fun e w' => e = .returned (.tuple #[.string ⟨#[]⟩, .int .i64 2]) ∧ Below w.heap.size w w' := by
  have h := Put_any [] 1152921504606846976 0 (by decide) (by decide) w
  rw [show putB [] 1152921504606846976 0 = [] by decide +kernel, show putE 1152921504606846976 0 = 2 by decide +kernel] at h
  exact h
theorem put_am (w : World) : Calls Try.prog 27 #[.string ⟨#[]⟩, .int .u64 0, .int .i64 (-1)] w fun e w' => e = .returned (.tuple #[.string ⟨#[]⟩, .int .i64 2]) ∧ Below w.heap.size w w' := by
  have h := Put_any [] 0 (-1) (by decide) (by decide) w
  rw [show putB [] 0 (-1) = [] by decide +kernel, show putE 0 (-1) = 2 by decide +kernel] at h
  exact h
theorem get_b (w : World) : Calls Try.prog 28 #[.string ⟨#[97, 98, 99]⟩, .int .i64 (-1), .int .i64 1] w fun e w' => e = .returned (.tuple #[.int .u64 0, .bool false]) ∧ w' = w := by
  have h := Get_any [97, 98, 99] (-1) 1 (by decide) w
  rw [show getN [97, 98, 99] (-1) 1 = 0 by decide, show getOk [97, 98, 99] (-1) 1 = false by decide] at h
  exact h
theorem get_f (w : World) : Calls Try.prog 28 #[.string ⟨#[97, 98, 99]⟩, .int .i64 9223372036854775807, .int .i64 8] w fun e w' => e = .returned (.tuple #[.int .u64 0, .bool false]) ∧ w' = w := by
  have h := Get_any [97, 98, 99] 9223372036854775807 8 (by decide) w
  rw [show getN [97, 98, 99] 9223372036854775807 8 = 0 by decide +kernel, show getOk [97, 98, 99] 9223372036854775807 8 = false by decide +kernel] at h
  exact h
theorem get_n (w : World) : Calls Try.prog 28 #[.string ⟨#[97, 98, 99]⟩, .int .i64 3, .int .i64 1] w fun e w' => e = .returned (.tuple #[.int .u64 0, .bool false]) ∧ w' = w := by
  have h := Get_any [97, 98, 99] 3 1 (by decide) w
  rw [show getN [97, 98, 99] 3 1 = 0 by decide, show getOk [97, 98, 99] 3 1 = false by decide] at h
  exact h
theorem get_9 (w : World) : Calls Try.prog 28 #[.string ⟨#[97, 98, 99, 100, 101, 102, 103, 104, 105, 106]⟩, .int .i64 0, .int .i64 9] w fun e w' => e = .returned (.tuple #[.int .u64 0, .bool false]) ∧ w' = w := by
  have h := Get_any [97, 98, 99, 100, 101, 102, 103, 104, 105, 106] 0 9 (by decide) w
  rw [show getN [97, 98, 99, 100, 101, 102, 103, 104, 105, 106] 0 9 = 0 by decide, show getOk [97, 98, 99, 100, 101, 102, 103, 104, 105, 106] 0 9 = false by decide] at h
  exact h
theorem get_l (w : World) : Calls Try.prog 28 #[.string ⟨#[97, 98, 99]⟩, .int .i64 2, .int .i64 1] w fun e w' => e = .returned (.tuple #[.int .u64 99, .bool true]) ∧ w' = w := by
  have h := Get_any [97, 98, 99] 2 1 (by decide) w
  rw [show getN [97, 98, 99] 2 1 = 99 by decide, show getOk [97, 98, 99] 2 1 = true by decide] at h
  exact h
/-- As many zeros, as a text. -/
theorem long_text (w : World) (n : Nat) (hn : n = 65535) : ∃ (L : Bs) (w' : World), L.length = n ∧ Below w.heap.size w w' ∧
    (Instr.makeSlice 49 (.int .i64 65535) (.int .i64 65535)).run Try.prog w = .ok (.slice (some ⟨w.heap.size, 0, none⟩) n n) w' ∧ (convert 49 9 (.slice (some ⟨w.heap.size, 0, none⟩) n n)).run Try.prog w' = .ok (.string (str L)) w' := by
  obtain ⟨i0, hi, hz0, hz1, hz2⟩ := info_parts info_u8S
  have hmk := make_zeros (P := Try.prog) w 49 5 i0 Try.underlying49 hi hz0 hz1 hz2 n (by omega)
  have hA := AtL.new w 5 (List.replicate n (Value.int .u8 0))
  have hc : ((n : Nat) : Int) = 65535 := by omega
  rw [hc] at hmk
  refine ⟨List.replicate n 0, _, List.length_replicate, (Below.refl _ _).alloc (Nat.le_refl _) _, hmk, ?_⟩
  refine cells_text (P := Try.prog) _ 49 9 5 Try.underlying49 Try.underlying5 Try.underlying9 w.heap.size n n _ (by rw [List.length_replicate]) fun j b hb => ?_
  obtain ⟨hj, rfl⟩ : j < n ∧ 0 = b := by
    rw [List.getElem?_replicate] at hb
    split at hb
    · exact ⟨by assumption, Option.some.inj hb⟩
    · cases hb
  refine hA.get ?_
  rw [List.getElem?_replicate, if_pos hj]
  rfl
theorem num_none (r : Nat) (w : World) (h : RdAt w r (some [])) : Calls Try.prog 17 #[.pointer (some ⟨r, 0, none⟩), .int .i64 0] w fun e w' => e = .returned (.int .u64 0) ∧ RdAt w' r none ∧ w.grownBy w' (some r) := by
  have := Num_any 0 r _ w (fun l hl => by cases hl; decide) h
  rw [show numS (some []) 0 = (0, none) by decide] at this
  exact this

set_option maxRecDepth 100000 in
set_option maxHeartbeats 8000000 in
theorem known_walk (w : World) : Calls Try.prog 8 #[] w fun e w' => e = .returned (.bool true) ∧ Below w.heap.size w w' := by
  obtain ⟨n, hn⟩ : ∃ n, w.heap.size = n := ⟨_, rfl⟩
  rw [hn]
  have hB0 : Below n w w := .refl _ _
  have hz0 : n ≤ w.heap.size := by omega
  replace hn := Lib.hid hn
  go_enter Try.func8, Try.ntmps8
  go_wp2_with fail
  refine (put_all _).mono ?_
  rintro e w1 ⟨rfl, hb1⟩
  have hB1 := hB0.trans (hb1.mono hz0)
  have hz1 := Nat.le_trans hz0 hb1.size
  clear hb1 hB0 hz0
  go_wp2_with fail
  refine (put_o7 _).mono ?_
  rintro e w2 ⟨rfl, hb2⟩
  have hB2 := hB1.trans (hb2.mono hz1)
  have hz2 := Nat.le_trans hz1 hb2.size
  clear hb2 hB1 hz1
  go_wp2_with fail
  refine (put_a0 _).mono ?_
  rintro e w3 ⟨rfl, hb3⟩
  have hB3 := hB2.trans (hb3.mono hz2)
  have hz3 := Nat.le_trans hz2 hb3.size
  clear hb3 hB2 hz2
  go_wp2_with fail
  refine (put_am _).mono ?_
  rintro e w4 ⟨rfl, hb4⟩
  have hB4 := hB3.trans (hb4.mono hz3)
  have hz4 := Nat.le_trans hz3 hb4.size
  clear hb4 hB3 hz3
  obtain ⟨m, hm⟩ : ∃ m, m = 65535 := ⟨_, rfl⟩
  obtain ⟨L, w5, hL, hb5, hmk, hcv⟩ := long_text w4 m hm
  have hB5 := hB4.trans (hb5.mono hz4)
  have hz5 := Nat.le_trans hz4 hb5.size
  have hp6 := fun W => PutText_any [] L (by decide) (by omega) W
  have hp7 := fun W => PutText_any [] (L ++ [120]) (by decide) (by rw [List.length_append]; simp; omega) W
  have hT : ∃ T : Bs, ptB [] L = T ∧ (T.length : Int) = 65537 ∧ T.take 2 = [255, 255] := by
    have h1 : laidL 65535 2 = [255, 255] := by decide +kernel
    refine ⟨_, rfl, ?_, ?_⟩
    · simp only [ptB, hL, hm, h1]
      simp
      omega
    · simp only [ptB, hL, hm, h1]
      rfl
  obtain ⟨T, hT1, hT2, hT3⟩ := hT
  have hE6 : ptE L = 0 := by simp [ptE]; omega
  have hE7 : ptE (L ++ [120]) = 3 := by simp [ptE]; omega
  have hB7 : ptB [] (L ++ [120]) = [] := by simp [ptB]; omega
  simp only [hT1, hE6] at hp6
  simp only [hE7, hB7] at hp7
  have hLs : ¬ 9223372036854775807 < L.length + 1 := by omega
  have hTn : T.length = 65537 := by omega
  replace hp6 := Lib.hid hp6
  replace hp7 := Lib.hid hp7
  clear hb5 hB4 hT1 hE6 hE7 hB7 hm hL hT2
  go_wp2_with fail
  refine (hp6.out _).mono ?_
  rintro e w6 ⟨rfl, hb6⟩
  have hB6 := hB5.trans (hb6.mono hz5)
  have hz6 := Nat.le_trans hz5 hb6.size
  clear hb6 hB5 hz5 hmk hcv
  go_wp2_with fail
  refine (hp7.out _).mono ?_
  rintro e w7 ⟨rfl, hb7⟩
  have hB7 := hB6.trans (hb7.mono hz6)
  have hz7 := Nat.le_trans hz6 hb7.size
  clear hb7 hB6 hz6
  go_wp2_with fail
  refine (get_b _).mono ?_
  rintro e w8 ⟨rfl, rfl⟩
  go_wp2_with fail
  refine (get_f _).mono ?_
  rintro e w9 ⟨rfl, rfl⟩
  go_wp2_with fail
  refine (get_n _).mono ?_
  rintro e w10 ⟨rfl, rfl⟩
  go_wp2_with fail
  refine (get_9 _).mono ?_
  rintro e w11 ⟨rfl, rfl⟩
  go_wp2_with fail
  refine (get_l _).mono ?_
  rintro e w12 ⟨rfl, rfl⟩
  go_wp2_with fail
  refine (Read_any [] _).mono ?_
  rintro e w13 ⟨rfl, hR13, hb13⟩
  have hB13 := hB7.trans (hb13.mono hz7)
  have hz13 := Nat.le_trans hz7 hb13.size
  clear hb13 hB7
  go_wp2_with fail
  refine (End_any _ _ _ hR13).mono ?_
  rintro e w14 ⟨rfl, rfl⟩
  go_wp2_with fail
  refine (num_none _ _ hR13).mono ?_
  rintro e w15 ⟨rfl, hR15, hg15⟩
  have hB15 := below_rd hB13 hg15 hz13 hz7
  have hz15 := Nat.le_trans hz13 hg15.size
  clear hg15 hR13 hB13 hz13
  go_wp2_with fail
  refine (Num_nil _ _).mono ?_
  rintro e w16 ⟨rfl, hb16⟩
  have hB16 := hB15.trans (hb16.mono hz15)
  have hz16 := Nat.le_trans hz15 hb16.size
  have hR16 := hR15.on hb16
  clear hb16 hR15 hB15 hz15
  go_wp2_with fail
  refine (Text_nil _).mono ?_
  rintro e w17 ⟨rfl, hb17⟩
  have hB17 := hB16.trans (hb17.mono hz16)
  have hz17 := Nat.le_trans hz16 hb17.size
  have hR17 := hR16.on hb17
  clear hb17 hR16 hB16 hz16
  go_wp2_with fail
  refine (Left_nil _).mono ?_
  rintro e w18 ⟨rfl, rfl⟩
  go_wp2_with fail
  refine (End_nil _).mono ?_
  rintro e w19 ⟨rfl, rfl⟩
  go_wp2_with fail
  refine (works_any _).mono ?_
  rintro e w20 ⟨rfl, hb20⟩
  have hB20 := hB17.trans (hb20.mono hz17)
  have hR20 := hR17.on hb20
  clear hb20 hR17 hB17
  go_wp2_with fail
  refine (End_any _ _ _ hR20).mono ?_
  rintro e w21 ⟨rfl, rfl⟩
  go_wp2
  go_ret
  exact ⟨rfl, hB20⟩

end Go.Proofs.Ytjjmhkafhbeabaa.Oct
