/-
  OctetTells: what is put, what lies somewhere, and a text that is laid, is as the document says.
-/
import Derived.Test.YtjjmhkafhbeabaaOctWorks
import Derived.Test.YtjjmhkafhbeabaaTail
import Derived.Lib.QuietBelow
namespace Go.Proofs.Ytjjmhkafhbeabaa.Oct
open Go.RowKit Go.Sort Go.Proofs.Ytjjmhkafhbeabaa.Mem Go.Proofs.Ytjjmhkafhbeabaa.Route
set_option linter.unusedVariables false
attribute [local go_sem] str_append str_from str_to

theorem below_drewN {B : Nat} {a v : World} (n : Nat) (h : Below B a v) : Below B a (v.drewN n) := ⟨h.os, h.tape, h.output, h.size, h.block⟩
theorem small_is (k : Int) : ∃ S : Nat, wrap64 (1 + wrap64 ((IntKind.u64.wrap k).tmod 8)) = (S : Int) ∧ 1 ≤ S ∧ S ≤ 8 := by
  have h0 : 0 ≤ IntKind.u64.wrap k := by
    simp [IntKind.wrap, IntKind.bits, IntKind.signed]
    omega
  obtain ⟨x, hx⟩ : ∃ x, IntKind.u64.wrap k = x := ⟨_, rfl⟩
  rw [hx] at h0 ⊢
  rw [Int.tmod_eq_emod_of_nonneg h0]
  refine ⟨1 + (x % 8).toNat, ?_, by omega, by omega⟩
  unfold wrap64
  omega
set_option maxRecDepth 100000 in
set_option maxHeartbeats 4000000 in
theorem tells_walk (s t : Bs) (n : Nat) (o k : Int) (hn : n < 18446744073709551616) (hs : s.length ≤ 281474976710000) (ht : t.length ≤ 281474976710000) (hk0 : -9223372036854775808 ≤ k) (hk1 : k ≤ 9223372036854775807) (ho0 : -9223372036854775808 ≤ o) (ho1 : o ≤ 9223372036854775807) (w : World) :
    Calls Try.prog 3 #[.agg #[.string (str s), .string (str t)], .int .u64 (n : Int), .agg #[.int .i64 o, .int .i64 k]] w fun e w' => e = .returned (.bool true) ∧ Below w.heap.size w w' := by
  have hp1 := fun W => PutText_any s t hs ht W
  have hp2 := fun W => refPutText_any s t hs ht W
  obtain ⟨B, hB⟩ : ∃ B, ptB s t = B := ⟨_, rfl⟩
  obtain ⟨E, hE⟩ : ∃ E, ptE t = E := ⟨_, rfl⟩
  simp only [hB, hE] at hp1 hp2
  clear hB hE
  go_enter Try.func3, Try.ntmps3
  go_upto_region 1 with fail
  go_quiet (fail)
  go_wp2_with fail
  refine (hp1 _).mono ?_
  clear hp1
  rintro e w1 ⟨rfl, hb1⟩
  have hB1 : Below w.heap.size w w1 := below_drewN nq ((((Below.refl w.heap.size w).alloc (Nat.le_refl _) _).alloc (by simp) _)) |>.trans (hb1.mono (by simp; omega))
  have hz1 := hB1.size
  clear hb1
  go_wp2_with fail
  refine (hp2 _).mono ?_
  clear hp2
  rintro e w2 ⟨rfl, hb2⟩
  have hB2 := hB1.trans (hb2.mono hz1)
  have hz2 := Nat.le_trans hz1 hb2.size
  clear hb2 hB1 hz1
  go_upto_region 6 with fail
  obtain ⟨S, hS, hS1, hS8⟩ := small_is k
  simp only [hS]
  generalize wrap64 ((IntKind.u64.wrap o).tmod (↑(List.length s) + 2)) = P
  clear hS
  obtain ⟨m, hm⟩ : ∃ m, 8 - S = m := ⟨_, rfl⟩
  obtain ⟨q, hq⟩ : ∃ q, 8 * m = q := ⟨_, rfl⟩
  have e1 : (8 : Int) - (S : Int) = (m : Int) := by omega
  have e2 : (8 : Int) * (m : Int) = (q : Int) := by omega
  have hm8 : (m : Int) ≤ 8 := by omega
  have hq64 : q < 64 := by omega
  have c1 := Lib.hid (fun W => puts_any s n k hn hs W)
  have c2 := Lib.hid (fun W => puts_any s n S hn hs W)
  have c3 := fun W => puts_any s (n / 2 ^ q) S (Nat.lt_of_le_of_lt (Nat.div_le_self _ _) hn) hs W
  rw [show ((n / 2 ^ q : Nat) : Int) = (n : Int) / 2 ^ q by simp] at c3
  replace c3 := Lib.hid c3
  have hs' : s.length ≤ 9223372036854775807 := by omega
  have d1 := Lib.hid (fun W => gets_any s o k hs' W)
  have d2 := Lib.hid (fun W => gets_any s P S hs' W)
  have d3 := Lib.hid (fun W => gets_any s P k hs' W)
  have hn64 : (n : Int) ≤ 18446744073709551615 := by omega
  clear hs' hm hq hs ht hS1 hS8
  go_wp2_with fail
  refine (c1.out _).mono ?_
  rintro e w3 ⟨rfl, hb3⟩
  have hB3 := hB2.trans (hb3.mono hz2)
  have hz3 := Nat.le_trans hz2 hb3.size
  clear hb3 hB2 hz2
  go_wp2_with fail
  refine (c2.out _).mono ?_
  rintro e w4 ⟨rfl, hb4⟩
  have hB4 := hB3.trans (hb4.mono hz3)
  have hz4 := Nat.le_trans hz3 hb4.size
  clear hb4 hB3 hz3
  go_wp2_with fail
  refine (c3.out _).mono ?_
  rintro e w5 ⟨rfl, hb5⟩
  have hB5 := hB4.trans (hb5.mono hz4)
  have hz5 := Nat.le_trans hz4 hb5.size
  clear hb5 hB4 hz4
  go_wp2_with fail
  refine (d1.out _).mono ?_
  rintro e w6 ⟨rfl, rfl⟩
  go_wp2_with fail
  refine (d2.out _).mono ?_
  rintro e w7 ⟨rfl, rfl⟩
  go_wp2_with fail
  refine (d3.out _).mono ?_
  rintro e w8 ⟨rfl, rfl⟩
  go_wp2_with fail
  refine (works_any _).mono ?_
  rintro e w9 ⟨rfl, hb9⟩
  go_wp2
  go_ret
  exact ⟨rfl, hB5.trans (hb9.mono hz5)⟩

end Go.Proofs.Ytjjmhkafhbeabaa.Oct
