/-
  FrameCut: a frame that is cut is too short; one with something behind it is none, and is split.
-/
import Derived.Test.YtkfienjlmnbonaaFrBackL
namespace Go.Proofs.Ytkfienjlmnbonaa.Fr
open Go.RowKit Go.Sort Go.Shelf Go.Proofs.Ytkfienjlmnbonaa.Mem Go.Proofs.Ytkfienjlmnbonaa.Route Go.Proofs.Ytkfienjlmnbonaa.Oct
set_option linter.unusedVariables false
attribute [local go_sem] str_append str_from str_to

theorem split_none (s : Bs) (hs : s.length ≤ 9223372036854775807) (hf : front s = none) (w : World) :
    Calls Try.prog 14 #[.string (str s)] w fun e w' => e = .returned (.tuple #[.int .i64 0, .string (str []), .string (str []), .int .i64 14]) ∧ Below w.heap.size w w' := by
  have h := Split_any s hs w
  simpa only [spK, spB, spR, spE, hf] using h
theorem parse_none (s : Bs) (hs : s.length ≤ 9223372036854775807) (hf : front s = none) (w : World) :
    Calls Try.prog 12 #[.string (str s)] w fun e w' => e = .returned (.tuple #[.int .i64 0, .string (str []), .int .i64 14]) ∧ Below w.heap.size w w' := by
  have h := Parse_any s hs w
  simpa only [paK, paB, paE, hf] using h
theorem split_lay (k : Nat) (b t : Bs) (hk : k < 256) (hb : b.length < 65536) (hs : (frL k b ++ t).length ≤ 9223372036854775807) (w : World) :
    Calls Try.prog 14 #[.string (str (frL k b ++ t))] w fun e w' => e = .returned (.tuple #[.int .i64 (k : Int), .string (str b), .string (str t), .int .i64 0]) ∧ Below w.heap.size w w' := by
  have h := Split_any (frL k b ++ t) hs w
  simpa only [spK, spB, spR, spE, front_lay hk hb t] using h
theorem parse_more_lay (k : Nat) (b t : Bs) (hk : k < 256) (hb : b.length < 65536) (hs : (frL k b ++ t).length ≤ 9223372036854775807) (ht : t ≠ []) (w : World) :
    Calls Try.prog 12 #[.string (str (frL k b ++ t))] w fun e w' => e = .returned (.tuple #[.int .i64 0, .string (str []), .int .i64 15]) ∧ Below w.heap.size w w' := by
  have h := Parse_any (frL k b ++ t) hs w
  simpa only [paK, paB, paE, front_lay hk hb t, if_neg ht] using h
set_option maxRecDepth 100000 in
set_option maxHeartbeats 4000000 in
theorem cut_walk (k : Nat) (hk : k < 256) (b0 t : Bs) (a : Nat) (ha : a < 65536) (hb0 : b0.length ≤ 140737488351232) (ht : t.length ≤ 140737488351232) (w : World) :
    Calls Try.prog 6 #[.int .u8 (k : Int), .string (str b0), .int .u16 (a : Int), .string (str t)] w fun e w' => e = .returned (.bool true) ∧ Below w.heap.size w w' := by
  obtain ⟨n, hn⟩ : ∃ n, w.heap.size = n := ⟨_, rfl⟩
  rw [hn]
  have hB0 : Below n w w := .refl _ _
  have hz0 : n ≤ w.heap.size := by omega
  replace hn := Lib.hid hn
  have hki : (k : Int) ≤ 255 := by omega
  obtain ⟨m, hm⟩ : ∃ m : Nat, min (b0.length : Int) 300 = m := ⟨min b0.length 300, by omega⟩
  have hml : (m : Int) ≤ (b0.length : Int) := by omega
  obtain ⟨b, hb⟩ : ∃ b, b0.take m = b := ⟨_, rfl⟩
  have hbl : b.length ≤ 300 := by rw [← hb, List.length_take]; omega
  have hb6 : b.length < 65536 := by omega
  have h2 := Lib.hid (fun W => Lay_ok k b hk hb6 W)
  have hLl := frL_length k b
  obtain ⟨L, hL⟩ : ∃ L, frL k b = L := ⟨_, rfl⟩
  have hcut := fun c (hc : c < 3 + b.length) => front_cut (k := k) hb6 hc
  have hsp := Lib.hid (fun W => split_lay k b t hk hb6 (by rw [List.length_append, frL_length]; omega) W)
  have hpa := Lib.hid (fun (h : t ≠ []) W => parse_more_lay k b t hk hb6 (by rw [List.length_append, frL_length]; omega) h W)
  rw [hL] at h2 hLl
  simp only [hL] at hcut hsp hpa
  obtain ⟨c, hc⟩ : ∃ c, a % L.length = c := ⟨_, rfl⟩
  have hcl : c < L.length := by rw [← hc]; exact Nat.mod_lt _ (by omega)
  have q1 : (a : Int) % (L.length : Int) = (c : Int) := by rw [← hc]; simp
  have q2 : (a : Int).tmod (L.length : Int) = (c : Int) := by rw [Int.tmod_eq_emod_of_nonneg (by omega), q1]
  have q3 : (c : Int) ≤ (L.length : Int) := by omega
  have hfc := hcut c (by omega)
  have hT : (L.take c).length ≤ 9223372036854775807 := by rw [List.length_take]; omega
  have h3 := Lib.hid (fun W => parse_none (L.take c) hT hfc W)
  have h4 := Lib.hid (fun W => split_none (L.take c) hT hfc W)
  have hLi : (L.length : Int) = 3 + (b.length : Int) := by omega
  have hne : ¬ (L.length : Int) = 0 := by omega
  have ha6 : (a : Int) ≤ 65535 := by omega
  have hbi : (b.length : Int) ≤ 300 := by omega
  replace q1 := Lib.hid q1
  replace q2 := Lib.hid q2
  clear hcut hfc hT hc hcl hLl hb6 hbl hL
  go_enter Try.func6, Try.ntmps6
  go_wp2_with fail
  refine (works_any _).mono ?_
  rintro e w1 ⟨rfl, hb1⟩
  have hB1 := hB0.trans (hb1.mono hz0)
  have hz1 := Nat.le_trans hz0 hb1.size
  clear hb1 hB0 hz0
  go_wp2_with fail
  refine (h2.out _).mono ?_
  rintro e w2 ⟨rfl, hb2⟩
  have hB2 := hB1.trans (hb2.mono hz1)
  have hz2 := Nat.le_trans hz1 hb2.size
  clear hb2 hB1 hz1
  go_upto_region 7 with fail
  have hLi4 := Lib.hid hLi
  clear hLi
  replace q1 := q1.out
  replace q2 := q2.out
  go_wp2_with fail
  refine (h3.out _).mono ?_
  rintro e w3 ⟨rfl, hb3⟩
  have hB3 := hB2.trans (hb3.mono hz2)
  have hz3 := Nat.le_trans hz2 hb3.size
  clear hb3 hB2 hz2
  go_wp2_with fail
  refine (h4.out _).mono ?_
  rintro e w4 ⟨rfl, hb4⟩
  have hB4 := hB3.trans (hb4.mono hz3)
  have hz4 := Nat.le_trans hz3 hb4.size
  clear hb4 hB3 hz3
  by_cases hte : t = []
  · subst hte
    clear hpa hsp q1 q2 q3 hne
    go_wp2
    go_ret
    exact ⟨rfl, hB4⟩
  · have hn0 := str_full hte
    have h5 := Lib.hid (hpa.out hte)
    have h6 := Lib.hid hsp.out
    have hn1 : t.isEmpty = false := by cases t with | nil => exact absurd rfl hte | cons _ _ => rfl
    obtain ⟨M, hM⟩ : ∃ M, L ++ t = M := ⟨_, rfl⟩
    rw [hM] at h5 h6
    have hti : (t.length : Int) ≤ 140737488351232 := by omega
    have hLi3 : (L.length : Int) ≤ 303 := by have := hLi4.out; omega
    clear hpa hsp q1 q2 q3 hne hte
    go_wp2_with fail
    refine (h5.out _).mono ?_
    rintro e w5 ⟨rfl, hb5⟩
    have hB5 := hB4.trans (hb5.mono hz4)
    have hz5 := Nat.le_trans hz4 hb5.size
    clear hb5 hB4 hz4
    go_wp2_with fail
    refine (h6.out _).mono ?_
    rintro e w6 ⟨rfl, hb6⟩
    have hB6 := hB5.trans (hb6.mono hz5)
    have hz6 := Nat.le_trans hz5 hb6.size
    clear hb6 hB5 hz5
    go_wp2
    go_ret
    exact ⟨rfl, hB6⟩

end Go.Proofs.Ytkfienjlmnbonaa.Fr
