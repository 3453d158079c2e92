/-
  FrameBack: what is laid is parsed back, and what is parsed is laid as that text alone.
-/
import Derived.Test.YtkfienjlmnbonaaFrWorks
namespace Go.Proofs.Ytkfienjlmnbonaa.Fr
open Go.RowKit Go.Sort Go.Shelf Go.Proofs.Ytkfienjlmnbonaa.Mem Go.Proofs.Ytkfienjlmnbonaa.Route Go.Proofs.Ytkfienjlmnbonaa.Oct
set_option linter.unusedVariables false

theorem parse_lay (k : Nat) (b : Bs) (hk : k < 256) (hb : b.length < 65536) (w : World) :
    Calls Try.prog 12 #[.string (str (frL k b))] w fun e w' => e = .returned (.tuple #[.int .i64 (k : Int), .string (str b), .int .i64 0]) ∧ Below w.heap.size w w' := by
  have h := Parse_any (frL k b) (by rw [frL_length]; omega) w
  have hf := front_lay hk hb []
  rw [List.append_nil] at hf
  simpa only [paK, paB, paE, hf, if_true] using h
set_option maxRecDepth 100000 in
set_option maxHeartbeats 4000000 in
theorem back_walk (k : Nat) (hk : k < 256) (b s : Bs) (hb : b.length ≤ 9223372036854775807) (hs : s.length ≤ 9223372036854775807) (w : World) :
    Calls Try.prog 5 #[.int .u8 (k : Int), .string (str b), .string (str s)] w fun e w' => e = .returned (.bool true) ∧ Below w.heap.size w w' := by
  obtain ⟨n, hn⟩ : ∃ n, w.heap.size = n := ⟨_, rfl⟩
  rw [hn]
  have hB0 : Below n w w := .refl _ _
  have hz0 : n ≤ w.heap.size := by omega
  replace hn := Lib.hid hn
  have hki : (k : Int) ≤ 255 := by omega
  have hbi : (b.length : Int) ≤ 9223372036854775807 := by omega
  go_enter Try.func5, Try.ntmps5
  go_wp2_with fail
  refine (works_any _).mono ?_
  rintro e w1 ⟨rfl, hb1⟩
  have hB1 := hB0.trans (hb1.mono hz0)
  have hz1 := Nat.le_trans hz0 hb1.size
  clear hb1 hB0 hz0
  by_cases hb1 : b.length < 65536
  · have h2 := Lib.hid (fun W => Lay_ok k b hk hb1 W)
    have h3 := Lib.hid (fun W => parse_lay k b hk hb1 W)
    have hL := frL_length k b
    generalize frL k b = L at h2 h3 hL
    have hLi : (L.length : Int) = 3 + (b.length : Int) := by omega
    clear hL
    go_wp2_with fail
    refine (h2.out _).mono ?_
    rintro e w2 ⟨rfl, hb2⟩
    have hB2 := hB1.trans (hb2.mono hz1)
    have hz2 := Nat.le_trans hz1 hb2.size
    clear hb2 hB1 hz1
    go_wp2_with fail
    refine (h3.out _).mono ?_
    rintro e w3 ⟨rfl, hb3⟩
    have hB3 := hB2.trans (hb3.mono hz2)
    have hz3 := Nat.le_trans hz2 hb3.size
    clear hb3 hB2 hz2
    cases hf : front s with
    | none =>
      have h5 := Lib.hid (show ∀ W, Calls Try.prog 12 #[.string (str s)] W fun e w' => e = .returned (.tuple #[.int .i64 0, .string (str []), .int .i64 14]) ∧ Below W.heap.size W w' from fun W => by
        have := Parse_any s hs W
        simpa only [paK, paB, paE, hf] using this)
      clear hf
      go_wp2_with fail
      refine (h5.out _).mono ?_
      rintro e w4 ⟨rfl, hb4⟩
      have hB4 := hB3.trans (hb4.mono hz3)
      have hz4 := Nat.le_trans hz3 hb4.size
      clear hb4 hB3 hz3

      go_wp2
      go_ret
      exact ⟨rfl, hB4⟩
    | some f =>
      obtain ⟨q, own, rest⟩ := f
      have hfs := front_some hf
      simp only at hfs
      obtain ⟨hq, hown, hse⟩ := hfs
      by_cases hre : rest = []
      · subst hre
        rw [List.append_nil] at hse
        have h5 := Lib.hid (show ∀ W, Calls Try.prog 12 #[.string (str s)] W fun e w' => e = .returned (.tuple #[.int .i64 (q : Int), .string (str own), .int .i64 0]) ∧ Below W.heap.size W w' from fun W => by
          have := Parse_any s hs W
          simpa only [paK, paB, paE, hf, if_true] using this)
        have h6 := Lib.hid (show ∀ W, Calls Try.prog 9 #[.int .i64 (q : Int), .string (str own)] W fun e w' => e = .returned (.tuple #[.string (str s), .int .i64 0]) ∧ Below W.heap.size W w' from fun W => by
          rw [hse]
          exact Lay_ok q own hq hown W)
        clear hf hse hq hown
        go_wp2_with fail
        refine (h5.out _).mono ?_
        rintro e w4 ⟨rfl, hb4⟩
        have hB4 := hB3.trans (hb4.mono hz3)
        have hz4 := Nat.le_trans hz3 hb4.size
        clear hb4 hB3 hz3
        go_wp2_with fail
        refine (h6.out _).mono ?_
        rintro e w5 ⟨rfl, hb5⟩
        have hB5 := hB4.trans (hb5.mono hz4)
        have hz5 := Nat.le_trans hz4 hb5.size
        clear hb5 hB4 hz4

        go_wp2
        go_ret
        exact ⟨rfl, hB5⟩
      · have h5 := Lib.hid (show ∀ W, Calls Try.prog 12 #[.string (str s)] W fun e w' => e = .returned (.tuple #[.int .i64 0, .string (str []), .int .i64 15]) ∧ Below W.heap.size W w' from fun W => by
          have := Parse_any s hs W
          simpa only [paK, paB, paE, hf, if_neg hre] using this)
        clear hf hse hq hown
        go_wp2_with fail
        refine (h5.out _).mono ?_
        rintro e w4 ⟨rfl, hb4⟩
        have hB4 := hB3.trans (hb4.mono hz3)
        have hz4 := Nat.le_trans hz3 hb4.size
        clear hb4 hB3 hz3

        go_wp2
        go_ret
        exact ⟨rfl, hB4⟩

  · have hb2 : ¬ (b.length : Int) ≤ 65535 := by omega
    have h2 := Lib.hid (show ∀ W, Calls Try.prog 9 #[.int .i64 (k : Int), .string (str b)] W fun e w' => e = .returned (.tuple #[.string (str []), .int .i64 3]) ∧ Below W.heap.size W w' from fun W => by
      have := Lay_any (k : Int) b hb W
      rwa [show layB (k : Int) b = [] by rw [layB, if_neg (by omega), if_pos (by omega)], show layE (k : Int) b.length = 3 by rw [layE, if_neg (by omega), if_pos (by omega)]] at this)
    go_wp2_with fail
    refine (h2.out _).mono ?_
    rintro e w2 ⟨rfl, hb2⟩
    have hB2 := hB1.trans (hb2.mono hz1)
    have hz2 := Nat.le_trans hz1 hb2.size
    clear hb2 hB1 hz1
    cases hf : front s with
    | none =>
      have h5 := Lib.hid (show ∀ W, Calls Try.prog 12 #[.string (str s)] W fun e w' => e = .returned (.tuple #[.int .i64 0, .string (str []), .int .i64 14]) ∧ Below W.heap.size W w' from fun W => by
        have := Parse_any s hs W
        simpa only [paK, paB, paE, hf] using this)
      clear hf
      go_wp2_with fail
      refine (h5.out _).mono ?_
      rintro e w3 ⟨rfl, hb3⟩
      have hB3 := hB2.trans (hb3.mono hz2)
      have hz3 := Nat.le_trans hz2 hb3.size
      clear hb3 hB2 hz2

      go_wp2
      go_ret
      exact ⟨rfl, hB3⟩
    | some f =>
      obtain ⟨q, own, rest⟩ := f
      have hfs := front_some hf
      simp only at hfs
      obtain ⟨hq, hown, hse⟩ := hfs
      by_cases hre : rest = []
      · subst hre
        rw [List.append_nil] at hse
        have h5 := Lib.hid (show ∀ W, Calls Try.prog 12 #[.string (str s)] W fun e w' => e = .returned (.tuple #[.int .i64 (q : Int), .string (str own), .int .i64 0]) ∧ Below W.heap.size W w' from fun W => by
          have := Parse_any s hs W
          simpa only [paK, paB, paE, hf, if_true] using this)
        have h6 := Lib.hid (show ∀ W, Calls Try.prog 9 #[.int .i64 (q : Int), .string (str own)] W fun e w' => e = .returned (.tuple #[.string (str s), .int .i64 0]) ∧ Below W.heap.size W w' from fun W => by
          rw [hse]
          exact Lay_ok q own hq hown W)
        clear hf hse hq hown
        go_wp2_with fail
        refine (h5.out _).mono ?_
        rintro e w3 ⟨rfl, hb3⟩
        have hB3 := hB2.trans (hb3.mono hz2)
        have hz3 := Nat.le_trans hz2 hb3.size
        clear hb3 hB2 hz2
        go_wp2_with fail
        refine (h6.out _).mono ?_
        rintro e w4 ⟨rfl, hb4⟩
        have hB4 := hB3.trans (hb4.mono hz3)
        have hz4 := Nat.le_trans hz3 hb4.size
        clear hb4 hB3 hz3

        go_wp2
        go_ret
        exact ⟨rfl, hB4⟩
      · have h5 := Lib.hid (show ∀ W, Calls Try.prog 12 #[.string (str s)] W fun e w' => e = .returned (.tuple #[.int .i64 0, .string (str []), .int .i64 15]) ∧ Below W.heap.size W w' from fun W => by
          have := Parse_any s hs W
          simpa only [paK, paB, paE, hf, if_neg hre] using this)
        clear hf hse hq hown
        go_wp2_with fail
        refine (h5.out _).mono ?_
        rintro e w3 ⟨rfl, hb3⟩
        have hB3 := hB2.trans (hb3.mono hz2)
        have hz3 := Nat.le_trans hz2 hb3.size
        clear hb3 hB2 hz2

        go_wp2
        go_ret
        exact ⟨rfl, hB3⟩

end Go.Proofs.Ytkfienjlmnbonaa.Fr
