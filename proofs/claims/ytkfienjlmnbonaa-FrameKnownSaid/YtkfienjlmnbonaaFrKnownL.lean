/-
  FrameKnown: the longest body, and one byte more; which error comes first.
-/
import Derived.Test.YtkfienjlmnbonaaFrCutL
namespace Go.Proofs.Ytkfienjlmnbonaa.Fr
open Go.RowKit Go.Sort Go.Shelf Go.Proofs.Ytkfienjlmnbonaa.Mem Go.Proofs.Ytkfienjlmnbonaa.Route Go.Proofs.Ytkfienjlmnbonaa.Oct
set_option linter.unusedVariables false
attribute [local go_sem] str_append str_from str_to

theorem info_u8K : (Try.prog.info? 5).map (fun i => (i.zero, i.size, i.bytes)) = some (some (.int .u8 0), 1, 1) := by kernel_rfl
def zerosL (n : Nat) : Bs := List.replicate n 0
theorem zeros_cells (n : Nat) : (zerosL n).map u8V = List.replicate n (Value.int .u8 0) := by
  unfold zerosL
  rw [List.map_replicate]
  rfl
theorem zeros_len (n : Nat) : (zerosL n).length = n := by simp [zerosL]
theorem zeros_from (n k : Nat) : (zerosL n).drop k = zerosL (n - k) := by simp [zerosL]
theorem zeros_to (n k : Nat) : (zerosL n).take k = zerosL (min k n) := by simp [zerosL]
theorem parse_empty (w : World) : Calls Try.prog 12 #[.string ⟨#[]⟩] w fun e w' => e = .returned (.tuple #[.int .i64 0, .string (str []), .int .i64 14]) ∧ Below w.heap.size w w' := parse_none [] (by decide) rfl w
theorem parse_zz (w : World) : Calls Try.prog 12 #[.string ⟨#[0, 0]⟩] w fun e w' => e = .returned (.tuple #[.int .i64 0, .string (str []), .int .i64 14]) ∧ Below w.heap.size w w' := parse_none [0, 0] (by decide) rfl w
theorem parse_zzz (w : World) : Calls Try.prog 12 #[.string ⟨#[0, 0, 0]⟩] w fun e w' => e = .returned (.tuple #[.int .i64 0, .string (str []), .int .i64 0]) ∧ Below w.heap.size w w' := parse_lay 0 [] (by decide) (by decide) w
theorem front_010 (l : Bs) (hl : l.length = 255) : front ([0, 1, 0] ++ l) = none := by
  simp only [List.cons_append, List.nil_append, front]
  rw [if_neg (by rw [hl]; decide)]
set_option maxRecDepth 100000 in
set_option maxHeartbeats 4000000 in
theorem known_walk (w : World) : Calls Try.prog 8 #[] w fun e w' => e = .returned (.bool true) ∧ Below w.heap.size w w' := by
  obtain ⟨i0, hi, hi0, hi1, hi2⟩ := info_parts info_u8K
  have hmk := make_zeros (P := Try.prog) w 41 5 i0 Try.underlying41 hi hi0 hi1 hi2 65536 (by decide)
  rw [show ((65536 : Nat) : Int) = 65536 from rfl] at hmk
  have hA1 := AtL.new w 5 (List.replicate 65536 (Value.int .u8 0))
  have hB0 : Below w.heap.size w (w.alloc (.cells (List.replicate 65536 (Value.int .u8 0)).toArray 5)) := (Below.refl _ _).alloc (Nat.le_refl _) _
  rw [← zeros_cells] at hmk hA1 hB0
  obtain ⟨g, hg⟩ : ∃ g, w.heap.size = g := ⟨_, rfl⟩
  rw [hg] at hA1 hB0 hmk ⊢
  generalize w.alloc (.cells ((zerosL 65536).map u8V).toArray 5) = w0 at hmk hA1 hB0
  have hcv := cells_text (P := Try.prog) w0 41 9 5 Try.underlying41 Try.underlying5 Try.underlying9 g 65536 65536 (zerosL 65536) (zeros_len _).symm hA1.bytes
  have hz0 := hB0.size
  rw [hg] at hz0
  obtain ⟨Z, hZ⟩ : ∃ Z, zerosL 65536 = Z := ⟨_, rfl⟩
  obtain ⟨Y, hY⟩ : ∃ Y, Z.drop 1 = Y := ⟨_, rfl⟩
  have hYl : Y.length = 65535 := by rw [← hY, ← hZ, zeros_from, zeros_len]
  have hZl : Z.length = 65536 := by rw [← hZ, zeros_len]
  obtain ⟨X, hX⟩ : ∃ X, Z.take 255 = X := ⟨_, rfl⟩
  have hXl : X.length = 255 := by rw [← hX, ← hZ, zeros_to, zeros_len]; rfl
  rw [hZ] at hcv
  have h1 := Lib.hid (fun W => Lay_ok 255 Y (by decide) (by omega) W)
  have h2 := Lib.hid (show ∀ W, Calls Try.prog 9 #[.int .i64 1, .string (str Z)] W fun e w' => e = .returned (.tuple #[.string (str []), .int .i64 3]) ∧ Below W.heap.size W w' from fun W => by
    have := Lay_any 1 Z (by omega) W
    rwa [show layB 1 Z = [] by rw [layB, if_neg (by omega), if_pos (by omega)], show layE 1 Z.length = 3 by rw [layE, if_neg (by omega), if_pos (by omega)]] at this)
  have h3 := Lib.hid (show ∀ W, Calls Try.prog 9 #[.int .i64 256, .string (str Z)] W fun e w' => e = .returned (.tuple #[.string (str []), .int .i64 2]) ∧ Below W.heap.size W w' from fun W => by
    have := Lay_any 256 Z (by omega) W
    rwa [show layB 256 Z = [] by rw [layB, if_pos (by omega)], show layE 256 Z.length = 2 by rw [layE, if_pos (by omega)]] at this)
  have h4 := Lib.hid (fun W => parse_lay 255 Y (by decide) (by omega) W)
  have h5 := Lib.hid (fun W => parse_none ([0, 1, 0] ++ X) (by rw [List.length_append]; simp [hXl]) (front_010 X hXl) W)
  have hLl := frL_length 255 Y
  rw [hYl] at hLl
  have hb0 : ∀ W, (Instr.index 9 (.string (str (frL 255 Y))) (.int .i64 0)).run Try.prog W = .ok (.int .u8 255) W := fun W => byte_at (frL 255 Y) 0 255 (by simp [frL]) W
  have hb1 : ∀ W, (Instr.index 9 (.string (str (frL 255 Y))) (.int .i64 1)).run Try.prog W = .ok (.int .u8 255) W := fun W => byte_at (frL 255 Y) 1 255 (by simp [frL, hYl]) W
  have hb2 : ∀ W, (Instr.index 9 (.string (str (frL 255 Y))) (.int .i64 2)).run Try.prog W = .ok (.int .u8 255) W := fun W => byte_at (frL 255 Y) 2 255 (by simp [frL, hYl]) W
  generalize frL 255 Y = L at *
  have hXi : (X.length : Int) ≤ 255 := by omega
  have hap : (⟨#[0, 1, 0]⟩ : ByteArray) ++ str X = str ([0, 1, 0] ++ X) := str_append [0, 1, 0] X
  generalize [0, 1, 0] ++ X = V at h5 hap
  have hZi : (Z.length : Int) = 65536 := by omega
  have hLi : (L.length : Int) = 65538 := by omega
  clear hA1 hZ hYl hZl hXl hLl hi hi0 hi1 hi2 hg
  obtain ⟨n, hn⟩ : ∃ n, n = g := ⟨_, rfl⟩
  rw [← hn] at hB0 hz0 hmk hcv ⊢
  clear hn
  go_enter Try.func8, Try.ntmps8
  go_wp2_with fail
  refine (h1.out _).mono ?_
  rintro e w1 ⟨rfl, hb1⟩
  have hB1 := hB0.trans (hb1.mono hz0)
  have hz1 := Nat.le_trans hz0 hb1.size
  clear hb1 hB0 hz0
  go_wp2_with fail
  refine (h2.out _).mono ?_
  rintro e w2 ⟨rfl, hb2⟩
  have hB2 := hB1.trans (hb2.mono hz1)
  have hz2 := Nat.le_trans hz1 hb2.size
  clear hb2 hB1 hz1
  go_wp2_with fail
  refine (h3.out _).mono ?_
  rintro e w3 ⟨rfl, hb3⟩
  have hB3 := hB2.trans (hb3.mono hz2)
  have hz3 := Nat.le_trans hz2 hb3.size
  clear hb3 hB2 hz2
  go_wp2_with fail
  refine (h4.out _).mono ?_
  rintro e w4 ⟨rfl, hb4⟩
  have hB4 := hB3.trans (hb4.mono hz3)
  have hz4 := Nat.le_trans hz3 hb4.size
  clear hb4 hB3 hz3
  go_wp2_with fail
  refine (parse_empty _).mono ?_
  rintro e w5 ⟨rfl, hb5⟩
  have hB5 := hB4.trans (hb5.mono hz4)
  have hz5 := Nat.le_trans hz4 hb5.size
  clear hb5 hB4 hz4
  go_wp2_with fail
  refine (parse_zzz _).mono ?_
  rintro e w6 ⟨rfl, hb6⟩
  have hB6 := hB5.trans (hb6.mono hz5)
  have hz6 := Nat.le_trans hz5 hb6.size
  clear hb6 hB5 hz5
  go_wp2_with fail
  refine (parse_zz _).mono ?_
  rintro e w7 ⟨rfl, hb7⟩
  have hB7 := hB6.trans (hb7.mono hz6)
  have hz7 := Nat.le_trans hz6 hb7.size
  clear hb7 hB6 hz6
  go_wp2_with fail
  refine (h5.out _).mono ?_
  rintro e w8 ⟨rfl, hb8⟩
  have hB8 := hB7.trans (hb8.mono hz7)
  have hz8 := Nat.le_trans hz7 hb8.size
  clear hb8 hB7 hz7
  go_wp2_with fail
  refine (works_any _).mono ?_
  rintro e w9 ⟨rfl, hb9⟩
  have hB9 := hB8.trans (hb9.mono hz8)
  have hz9 := Nat.le_trans hz8 hb9.size
  clear hb9 hB8 hz8
  go_wp2
  go_ret
  exact ⟨rfl, hB9⟩

end Go.Proofs.Ytkfienjlmnbonaa.Fr
