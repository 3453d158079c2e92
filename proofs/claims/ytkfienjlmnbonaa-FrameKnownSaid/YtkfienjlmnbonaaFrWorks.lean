/-
  The chapter's examples.
-/
import Derived.Test.YtkfienjlmnbonaaFrCount
namespace Go.Proofs.Ytkfienjlmnbonaa.Fr
open Go.RowKit Go.Sort Go.Shelf Go.Proofs.Ytkfienjlmnbonaa.Mem Go.Proofs.Ytkfienjlmnbonaa.Route Go.Proofs.Ytkfienjlmnbonaa.Oct
set_option linter.unusedVariables false

theorem lay_ab (w : World) : Calls Try.prog 9 #[.int .i64 7, .string ⟨#[97, 98]⟩] w fun e w' => e = .returned (.tuple #[.string ⟨#[7, 0, 2, 97, 98]⟩, .int .i64 0]) ∧ Below w.heap.size w w' := by
  have h := Lay_any 7 [97, 98] (by decide) w
  rw [show layB 7 [97, 98] = [7, 0, 2, 97, 98] by decide, show layE 7 (List.length ([97, 98] : Bs)) = 0 by decide] at h
  exact h
theorem parse_ab (w : World) : Calls Try.prog 12 #[.string ⟨#[7, 0, 2, 97, 98]⟩] w fun e w' => e = .returned (.tuple #[.int .i64 7, .string ⟨#[97, 98]⟩, .int .i64 0]) ∧ Below w.heap.size w w' := by
  have h := Parse_any [7, 0, 2, 97, 98] (by decide) w
  rw [show paK [7, 0, 2, 97, 98] = 7 by decide, show paB [7, 0, 2, 97, 98] = [97, 98] by decide, show paE [7, 0, 2, 97, 98] = 0 by decide] at h
  exact h
theorem parse_cut (w : World) : Calls Try.prog 12 #[.string ⟨#[7, 0, 2, 97]⟩] w fun e w' => e = .returned (.tuple #[.int .i64 0, .string ⟨#[]⟩, .int .i64 14]) ∧ Below w.heap.size w w' := by
  have h := Parse_any [7, 0, 2, 97] (by decide) w
  rw [show paK [7, 0, 2, 97] = 0 by decide, show paB [7, 0, 2, 97] = [] by decide, show paE [7, 0, 2, 97] = 14 by decide] at h
  exact h
theorem parse_more (w : World) : Calls Try.prog 12 #[.string ⟨#[7, 0, 2, 97, 98, 0]⟩] w fun e w' => e = .returned (.tuple #[.int .i64 0, .string ⟨#[]⟩, .int .i64 15]) ∧ Below w.heap.size w w' := by
  have h := Parse_any [7, 0, 2, 97, 98, 0] (by decide) w
  rw [show paK [7, 0, 2, 97, 98, 0] = 0 by decide, show paB [7, 0, 2, 97, 98, 0] = [] by decide, show paE [7, 0, 2, 97, 98, 0] = 15 by decide] at h
  exact h
theorem split_more (w : World) : Calls Try.prog 14 #[.string ⟨#[7, 0, 2, 97, 98, 0]⟩] w fun e w' => e = .returned (.tuple #[.int .i64 7, .string ⟨#[97, 98]⟩, .string ⟨#[0]⟩, .int .i64 0]) ∧ Below w.heap.size w w' := by
  have h := Split_any [7, 0, 2, 97, 98, 0] (by decide) w
  rw [show spK [7, 0, 2, 97, 98, 0] = 7 by decide, show spB [7, 0, 2, 97, 98, 0] = [97, 98] by decide, show spR [7, 0, 2, 97, 98, 0] = [0] by decide, show spE [7, 0, 2, 97, 98, 0] = 0 by decide] at h
  exact h
theorem count_two (w : World) : Calls Try.prog 16 #[.string ⟨#[7, 0, 2, 97, 98, 7, 0, 2, 97, 98]⟩] w fun e w' => e = .returned (.tuple #[.int .i64 2, .int .i64 0]) ∧ Below w.heap.size w w' := by
  have h := Count_any [7, 0, 2, 97, 98, 7, 0, 2, 97, 98] [] [⟨7, [97, 98], [7, 0, 2, 97, 98]⟩, ⟨7, [97, 98], []⟩] (.go rfl (.go rfl (.stop rfl))) (by decide) w
  rw [show cnN [⟨7, [97, 98], [7, 0, 2, 97, 98]⟩, ⟨7, [97, 98], []⟩] [] = 2 by rfl, show cnE [] = 0 by rfl] at h
  exact h
theorem count_more (w : World) : Calls Try.prog 16 #[.string ⟨#[7, 0, 2, 97, 98, 0]⟩] w fun e w' => e = .returned (.tuple #[.int .i64 0, .int .i64 14]) ∧ Below w.heap.size w w' := by
  have h := Count_any [7, 0, 2, 97, 98, 0] [0] [⟨7, [97, 98], [0]⟩] (.go rfl (.stop rfl)) (by decide) w
  rw [show cnN [⟨7, [97, 98], [0]⟩] [0] = 0 by rfl, show cnE [0] = 14 by rfl] at h
  exact h
theorem count_none (w : World) : Calls Try.prog 16 #[.string ⟨#[]⟩] w fun e w' => e = .returned (.tuple #[.int .i64 0, .int .i64 0]) ∧ Below w.heap.size w w' := by
  have h := Count_any [] [] [] (.stop rfl) (by decide) w
  rw [show cnN [] [] = 0 by rfl, show cnE [] = 0 by rfl] at h
  exact h
theorem lay_256 (w : World) : Calls Try.prog 9 #[.int .i64 256, .string ⟨#[]⟩] w fun e w' => e = .returned (.tuple #[.string ⟨#[]⟩, .int .i64 2]) ∧ Below w.heap.size w w' := by
  have h := Lay_any 256 [] (by decide) w
  rw [show layB 256 [] = [] by decide, show layE 256 (List.length ([] : Bs)) = 2 by decide] at h
  exact h
theorem lay_neg (w : World) : Calls Try.prog 9 #[.int .i64 (-1), .string ⟨#[]⟩] w fun e w' => e = .returned (.tuple #[.string ⟨#[]⟩, .int .i64 2]) ∧ Below w.heap.size w w' := by
  have h := Lay_any (-1) [] (by decide) w
  rw [show layB (-1) [] = [] by decide, show layE (-1) (List.length ([] : Bs)) = 2 by decide] at h
  exact h

set_option maxRecDepth 100000 in
set_option maxHeartbeats 4000000 in
theorem works_any (w : World) : Calls Try.prog 11 #[] w fun e w' => e = .returned (.bool true) ∧ Below w.heap.size w w' := by
  obtain ⟨n, hn⟩ : ∃ n, w.heap.size = n := ⟨_, rfl⟩
  rw [hn]
  have hB0 : Below n w w := .refl _ _
  have hz0 : n ≤ w.heap.size := by omega
  replace hn := Lib.hid hn
  go_enter Try.func11, Try.ntmps11
  go_wp2_with fail
  refine (lay_ab _).mono ?_
  rintro e w1 ⟨rfl, hb1⟩
  have hB1 := hB0.trans (hb1.mono hz0)
  have hz1 := Nat.le_trans hz0 hb1.size
  clear hb1 hB0 hz0
  go_wp2_with fail
  refine (parse_ab _).mono ?_
  rintro e w2 ⟨rfl, hb2⟩
  have hB2 := hB1.trans (hb2.mono hz1)
  have hz2 := Nat.le_trans hz1 hb2.size
  clear hb2 hB1 hz1
  go_wp2_with fail
  refine (parse_cut _).mono ?_
  rintro e w3 ⟨rfl, hb3⟩
  have hB3 := hB2.trans (hb3.mono hz2)
  have hz3 := Nat.le_trans hz2 hb3.size
  clear hb3 hB2 hz2
  go_wp2_with fail
  refine (parse_more _).mono ?_
  rintro e w4 ⟨rfl, hb4⟩
  have hB4 := hB3.trans (hb4.mono hz3)
  have hz4 := Nat.le_trans hz3 hb4.size
  clear hb4 hB3 hz3
  go_wp2_with fail
  refine (split_more _).mono ?_
  rintro e w5 ⟨rfl, hb5⟩
  have hB5 := hB4.trans (hb5.mono hz4)
  have hz5 := Nat.le_trans hz4 hb5.size
  clear hb5 hB4 hz4
  go_wp2_with fail
  refine (count_two _).mono ?_
  rintro e w6 ⟨rfl, hb6⟩
  have hB6 := hB5.trans (hb6.mono hz5)
  have hz6 := Nat.le_trans hz5 hb6.size
  clear hb6 hB5 hz5
  go_wp2_with fail
  refine (count_more _).mono ?_
  rintro e w7 ⟨rfl, hb7⟩
  have hB7 := hB6.trans (hb7.mono hz6)
  have hz7 := Nat.le_trans hz6 hb7.size
  clear hb7 hB6 hz6
  go_wp2_with fail
  refine (count_none _).mono ?_
  rintro e w8 ⟨rfl, hb8⟩
  have hB8 := hB7.trans (hb8.mono hz7)
  have hz8 := Nat.le_trans hz7 hb8.size
  clear hb8 hB7 hz7
  go_wp2_with fail
  refine (lay_256 _).mono ?_
  rintro e w9 ⟨rfl, hb9⟩
  have hB9 := hB8.trans (hb9.mono hz8)
  have hz9 := Nat.le_trans hz8 hb9.size
  clear hb9 hB8 hz8
  go_wp2_with fail
  refine (lay_neg _).mono ?_
  rintro e w10 ⟨rfl, hb10⟩
  have hB10 := hB9.trans (hb10.mono hz9)
  have hz10 := Nat.le_trans hz9 hb10.size
  clear hb10 hB9 hz9
  go_wp2
  go_ret
  exact ⟨rfl, hB10⟩

end Go.Proofs.Ytkfienjlmnbonaa.Fr
