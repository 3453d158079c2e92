/-
  The chapter's examples; what is put, and what lies somewhere, is as the document says.
-/
import Derived.Test.YtjjmhkafhbeabaaOctPut2
import Derived.Test.YtjjmhkafhbeabaaOctRefRd
import Derived.Test.YtjjmhkafhbeabaaOctStep
namespace Go.Proofs.Ytjjmhkafhbeabaa.Oct
open Go.RowKit Go.Sort Go.Proofs.Ytjjmhkafhbeabaa.Mem Go.Proofs.Ytjjmhkafhbeabaa.Route
set_option linter.unusedVariables false
attribute [local go_sem] str_append str_from str_to

theorem put_a (w : World) : Calls Try.prog 27 #[.string ⟨#[97]⟩, .int .u64 258, .int .i64 2] w fun e w' => e = .returned (.tuple #[.string ⟨#[97, 1, 2]⟩, .int .i64 0]) ∧ Below w.heap.size w w' := by
  have h := Put_any [97] 258 2 (by decide) (by decide) w
  rw [show putB [97] 258 2 = [97, 1, 2] by decide, show putE 258 2 = 0 by decide] at h
  exact h
theorem put_over (w : World) : Calls Try.prog 27 #[.string ⟨#[]⟩, .int .u64 256, .int .i64 1] w fun e w' => e = .returned (.tuple #[.string ⟨#[]⟩, .int .i64 3]) ∧ Below w.heap.size w w' := by
  have h := Put_any [] 256 1 (by decide) (by decide) w
  rw [show putB [] 256 1 = [] by decide, show putE 256 1 = 3 by decide] at h
  exact h
theorem put_arg (w : World) : Calls Try.prog 27 #[.string ⟨#[]⟩, .int .u64 1, .int .i64 9] w fun e w' => e = .returned (.tuple #[.string ⟨#[]⟩, .int .i64 2]) ∧ Below w.heap.size w w' := by
  have h := Put_any [] 1 9 (by decide) (by decide) w
  rw [show putB [] 1 9 = [] by decide, show putE 1 9 = 2 by decide] at h
  exact h
theorem get_712 (w : World) : Calls Try.prog 28 #[.string ⟨#[7, 1, 2]⟩, .int .i64 1, .int .i64 2] w fun e w' => e = .returned (.tuple #[.int .u64 258, .bool true]) ∧ w' = w := by
  have h := Get_any [7, 1, 2] 1 2 (by decide) w
  rw [show getN [7, 1, 2] 1 2 = 258 by decide, show getOk [7, 1, 2] 1 2 = true by decide] at h
  exact h
theorem get_722 (w : World) : Calls Try.prog 28 #[.string ⟨#[7, 1, 2]⟩, .int .i64 2, .int .i64 2] w fun e w' => e = .returned (.tuple #[.int .u64 0, .bool false]) ∧ w' = w := by
  have h := Get_any [7, 1, 2] 2 2 (by decide) w
  rw [show getN [7, 1, 2] 2 2 = 0 by decide, show getOk [7, 1, 2] 2 2 = false by decide] at h
  exact h
theorem puttext_xy (w : World) : Calls Try.prog 9 #[.string ⟨#[]⟩, .string ⟨#[120, 121]⟩] w fun e w' => e = .returned (.tuple #[.string ⟨#[0, 2, 120, 121]⟩, .int .i64 0]) ∧ Below w.heap.size w w' := by
  have h := PutText_any [] [120, 121] (by decide) (by decide) w
  rw [show ptB [] [120, 121] = [0, 2, 120, 121] by decide, show ptE [120, 121] = 0 by decide] at h
  exact h
theorem read_02 (w : World) : Calls Try.prog 14 #[.string ⟨#[0, 2, 120]⟩] w fun e w' => e = .returned (.pointer (some ⟨w.heap.size, 0, none⟩)) ∧ RdAt w' w.heap.size (some [0, 2, 120]) ∧ Below w.heap.size w w' := Read_any [0, 2, 120] w
theorem text_02 (r : Nat) (w : World) (h : RdAt w r (some [0, 2, 120])) : Calls Try.prog 15 #[.pointer (some ⟨r, 0, none⟩)] w fun e w' => e = .returned (.string ⟨#[]⟩) ∧ RdAt w' r none ∧ w.grownBy w' (some r) := by
  have := Text_any r _ w (fun l hl => by cases hl; decide) h
  rw [show textS (some [0, 2, 120]) = ([], none) by decide] at this
  exact this

theorem below_rd {n : Nat} {a b c : World} {r : Nat} (h : Below n a b) (hg : b.grownBy c (some r)) (hn : n ≤ b.heap.size) (hr : n ≤ r) : Below n a c := h.grown hg hn (fun k e => by cases e; exact hr)
set_option maxRecDepth 100000 in
set_option maxHeartbeats 4000000 in
theorem works_any (w : World) : Calls Try.prog 13 #[] w fun e w' => e = .returned (.bool true) ∧ Below w.heap.size w w' := by
  obtain ⟨n, hn⟩ : ∃ n, w.heap.size = n := ⟨_, rfl⟩
  rw [hn]
  have hB0 : Below n w w := .refl _ _
  have hz0 : n ≤ w.heap.size := by omega
  replace hn := Lib.hid hn
  go_enter Try.func13, Try.ntmps13
  go_wp2_with fail
  refine (put_a _).mono ?_
  rintro e w1 ⟨rfl, hb1⟩
  have hB1 := hB0.trans (hb1.mono hz0)
  have hz1 := Nat.le_trans hz0 hb1.size
  clear hb1 hB0 hz0
  go_wp2_with fail
  refine (put_over _).mono ?_
  rintro e w2 ⟨rfl, hb2⟩
  have hB2 := hB1.trans (hb2.mono hz1)
  have hz2 := Nat.le_trans hz1 hb2.size
  clear hb2 hB1 hz1
  go_wp2_with fail
  refine (put_arg _).mono ?_
  rintro e w3 ⟨rfl, hb3⟩
  have hB3 := hB2.trans (hb3.mono hz2)
  have hz3 := Nat.le_trans hz2 hb3.size
  clear hb3 hB2 hz2
  go_wp2_with fail
  refine (get_712 _).mono ?_
  rintro e w4 ⟨rfl, rfl⟩
  go_wp2_with fail
  refine (get_722 _).mono ?_
  rintro e w5 ⟨rfl, rfl⟩
  go_wp2_with fail
  refine (puttext_xy _).mono ?_
  rintro e w6 ⟨rfl, hb6⟩
  have hB6 := hB3.trans (hb6.mono hz3)
  have hz6 := Nat.le_trans hz3 hb6.size
  clear hb6 hB3 hz3
  go_wp2_with fail
  refine (read_02 _).mono ?_
  rintro e w7 ⟨rfl, hR7, hb7⟩
  have hB7 := hB6.trans (hb7.mono hz6)
  have hz7 := Nat.le_trans hz6 hb7.size
  clear hb7 hB6
  go_wp2_with fail
  refine (text_02 _ _ hR7).mono ?_
  rintro e w8 ⟨rfl, hR8, hg8⟩
  have hB8 := below_rd hB7 hg8 hz7 hz6
  clear hg8 hB7 hR7
  go_wp2_with fail
  refine (Left_any _ _ _ hR8).mono ?_
  rintro e w9 ⟨rfl, rfl⟩
  go_wp2_with fail
  refine (End_any _ _ _ hR8).mono ?_
  rintro e w10 ⟨rfl, rfl⟩
  go_wp2
  go_ret
  exact ⟨rfl, hB8⟩

theorem puts_any (s : Bs) (n : Nat) (k : Int) (hn : n < 18446744073709551616) (hs : s.length ≤ 281474976710000) (w : World) :
    Calls Try.prog 11 #[.string (str s), .int .u64 (n : Int), .int .i64 k] w fun e w' => e = .returned (.bool true) ∧ Below w.heap.size w w' := by
  have h1 := Put_any s n k hn hs w
  have h2 := fun W => refPut_any s n k hn hs W
  obtain ⟨B, hB⟩ : ∃ B, putB s n k = B := ⟨_, rfl⟩
  obtain ⟨E, hE⟩ : ∃ E, putE n k = E := ⟨_, rfl⟩
  rw [hB, hE] at h1
  simp only [hB, hE] at h2
  clear hB hE
  go_enter Try.func11, Try.ntmps11
  go_wp2_with fail
  refine h1.mono ?_
  clear h1
  rintro e w1 ⟨rfl, hb1⟩
  go_wp2_with fail
  refine (h2 _).mono ?_
  clear h2
  rintro e w2 ⟨rfl, hb2⟩
  go_wp2
  go_ret
  exact ⟨rfl, hb1.trans (hb2.mono hb1.size)⟩
theorem gets_any (s : Bs) (o k : Int) (hs : s.length ≤ 9223372036854775807) (w : World) :
    Calls Try.prog 12 #[.string (str s), .int .i64 o, .int .i64 k] w fun e w' => e = .returned (.bool true) ∧ w' = w := by
  have h1 := Get_any s o k hs w
  have h2 := fun W => refGet_any s o k hs W
  obtain ⟨B, hB⟩ : ∃ B, getN s o k = B := ⟨_, rfl⟩
  obtain ⟨E, hE⟩ : ∃ E, getOk s o k = E := ⟨_, rfl⟩
  rw [hB, hE] at h1
  simp only [hB, hE] at h2
  clear hB hE
  go_enter Try.func12, Try.ntmps12
  go_wp2_with fail
  refine h1.mono ?_
  clear h1
  rintro e w1 ⟨rfl, rfl⟩
  go_wp2_with fail
  refine (h2 _).mono ?_
  clear h2
  rintro e w2 ⟨rfl, rfl⟩
  go_wp2
  go_ret
  exact ⟨rfl, rfl⟩

end Go.Proofs.Ytjjmhkafhbeabaa.Oct
