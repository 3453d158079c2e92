/-
  The program's Put and PutText.
-/
import Derived.Test.YtjjmhkafhbeabaaOctPut
namespace Go.Proofs.Ytjjmhkafhbeabaa.Oct
open Go.RowKit Go.Sort Go.Proofs.Ytjjmhkafhbeabaa.Mem Go.Proofs.Ytjjmhkafhbeabaa.Route
set_option linter.unusedVariables false

attribute [local go_sem] str_append
theorem ret_si {a b : Bs} {c d : Int} (h : a = b) (h2 : c = d) : Ending.returned (.tuple #[.string (str a), .int .i64 c]) = .returned (.tuple #[.string (str b), .int .i64 d]) := by rw [h, h2]
set_option maxRecDepth 100000 in
set_option maxHeartbeats 4000000 in
theorem Put_any (s : Bs) (n : Nat) (k : Int) (hn : n < 18446744073709551616) (hs : s.length ≤ 281474976710000) (w : World) :
    Calls Try.prog 27 #[.string (str s), .int .u64 (n : Int), .int .i64 k] w fun e w' => e = .returned (.tuple #[.string (str (putB s n k)), .int .i64 (putE n k)]) ∧ Below w.heap.size w w' := by
  have hwd := isWidth_any k w
  cases hw : isW k
  · rw [hw] at hwd
    have hE := Lib.hid (show putE n k = 2 by simp [putE, hw])
    have hB := Lib.hid (show putB s n k = [] by simp [putB, hw])
    clear hw
    go_enter Try.func27, Try.ntmps27
    go_wp2_with fail
    refine hwd.mono ?_
    rintro e w' ⟨rfl, rfl⟩
    go_wp2
    go_ret2
    exact ⟨ret_si hB.out.symm hE.out.symm, Below.refl _ _⟩
  · rw [hw] at hwd
    obtain ⟨K, rfl⟩ : ∃ K : Nat, k = K := ⟨k.toNat, by simp [isW] at hw; omega⟩
    have hK : 1 ≤ K ∧ K ≤ 8 := by simp [isW] at hw; omega
    obtain ⟨q, hq⟩ : ∃ q, 8 * K = q := ⟨_, rfl⟩
    have e2 : (8 : Int) * (K : Int) = (q : Int) := by omega
    have hq64 : q ≤ 64 := by omega
    have hmin : min q 64 = q := by omega
    by_cases hlt : n < 2 ^ q
    · have hz : (n : Int) / 2 ^ q = 0 := by
        have : ((n / 2 ^ q : Nat) : Int) = 0 := by rw [Nat.div_eq_of_lt hlt]; rfl
        simpa using this
      have hE := Lib.hid (show putE n K = 0 by simp [putE, hw, hq, hlt])
      have hB := Lib.hid (show putB s n K = s ++ laidL n K by simp [putB, hw, hq, hlt])
      have hla := fun W => laid_any n K hn hK.1 hK.2 W
      have hk1 := hK.1
      have hll := laidL_length n K
      clear hw hlt hq hK
      go_enter Try.func27, Try.ntmps27
      go_wp2_with fail
      refine hwd.mono ?_
      rintro e w' ⟨rfl, rfl⟩
      go_wp2_with fail
      refine (hla _).mono ?_
      rintro e w1 ⟨rfl, hc, hb1⟩
      have hlen : 0 < (laidL n K).length := by omega
      have hh : w'.heap.size < w1.heap.size := by
        have := hc 0 _ (List.getElem?_eq_getElem hlen)
        rcases Nat.lt_or_ge w'.heap.size w1.heap.size with h | h
        · exact h
        · simp [World.cell?, Array.getElem?_eq_none h] at this
      have hj := join_any s (laidL n K) K w'.heap.size K hll hk1 (by omega) w1 hh hc
      clear hc hlen
      go_wp2_with fail
      refine hj.mono ?_
      rintro e w2 ⟨rfl, hb2⟩
      go_wp2
      go_ret2
      exact ⟨ret_si hB.out.symm hE.out.symm, hb1.trans (hb2.mono hb1.size)⟩
    · have hz : ¬ (n : Int) / 2 ^ q = 0 := by
        intro h0
        have h1 : ((n / 2 ^ q : Nat) : Int) = 0 := by simpa using h0
        have h2 : n / 2 ^ q = 0 := by omega
        rw [Nat.div_eq_zero_iff] at h2
        rcases h2 with h2 | h2
        · have := Nat.pow_pos (n := q) (show 0 < 2 by decide); omega
        · exact hlt h2
      have hE := Lib.hid (show putE n K = 3 by simp [putE, hw, hq, hlt])
      have hB := Lib.hid (show putB s n K = [] by simp [putB, hw, hq, hlt])
      clear hw hlt hq hK
      go_enter Try.func27, Try.ntmps27
      go_wp2_with fail
      refine hwd.mono ?_
      rintro e w' ⟨rfl, rfl⟩
      go_wp2
      go_ret2
      exact ⟨ret_si hB.out.symm hE.out.symm, Below.refl _ _⟩

set_option maxRecDepth 100000 in
set_option maxHeartbeats 4000000 in
theorem PutText_any (s t : Bs) (hs : s.length ≤ 281474976710000) (ht : t.length ≤ 281474976710000) (w : World) :
    Calls Try.prog 9 #[.string (str s), .string (str t)] w fun e w' => e = .returned (.tuple #[.string (str (ptB s t)), .int .i64 (ptE t)]) ∧ Below w.heap.size w w' := by
  have hp := Put_any s t.length 2 (by omega) hs w
  have hw : isW 2 = true := by decide
  by_cases hlt : t.length < 65536
  · have hE := Lib.hid (show ptE t = 0 by simp [ptE, hlt])
    have hB := Lib.hid (show ptB s t = s ++ (laidL t.length 2 ++ t) by simp [ptB, hlt])
    rw [show putE t.length 2 = 0 by simp [putE, hw, hlt], show putB s t.length 2 = s ++ laidL t.length 2 by simp [putB, hw, hlt]] at hp
    have hl2 := laidL_length t.length 2
    obtain ⟨L, hL⟩ : ∃ L, laidL t.length 2 = L := ⟨_, rfl⟩
    rw [hL] at hp hB hl2
    have ht' : (t.length : Int) < 65536 := by omega
    have hsum : ¬ 9223372036854775807 < (s ++ L).length + t.length := by rw [List.length_append]; omega
    clear hw hlt hL
    go_enter Try.func9, Try.ntmps9
    go_wp2_with fail
    refine hp.mono ?_
    rintro e w1 ⟨rfl, hb1⟩
    go_wp2
    go_ret2
    exact ⟨(ret_si hB.out hE.out).symm, hb1⟩
  · have hE := Lib.hid (show ptE t = 3 by simp [ptE, hlt])
    have hB := Lib.hid (show ptB s t = [] by simp [ptB, hlt])
    rw [show putE t.length 2 = 3 by simp [putE, hw, hlt], show putB s t.length 2 = [] by simp [putB, hw, hlt]] at hp
    have ht' : (t.length : Int) ≤ 281474976710000 := by omega
    clear hw hlt
    go_enter Try.func9, Try.ntmps9
    go_wp2_with fail
    refine hp.mono ?_
    rintro e w1 ⟨rfl, hb1⟩
    go_wp2
    go_ret2
    exact ⟨ret_si hB.out.symm hE.out.symm, hb1⟩

end Go.Proofs.Ytjjmhkafhbeabaa.Oct
