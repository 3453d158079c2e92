/-
  OctetBack: what was put is read again, in the same order, and nothing is left; with a byte more behind it one is left.
-/
import Derived.Test.YtjjmhkafhbeabaaOctReadP
import Derived.Test.YtjjmhkafhbeabaaOctWorks
namespace Go.Proofs.Ytjjmhkafhbeabaa.Oct
open Go.RowKit Go.Sort Go.Proofs.Ytjjmhkafhbeabaa.Mem Go.Proofs.Ytjjmhkafhbeabaa.Route
set_option linter.unusedVariables false
attribute [local go_sem] str_append str_from str_to

theorem cutL_ok {ps : List Part} (h : ∀ p ∈ ps, p.ok) : ∀ p ∈ cutL ps, PartOk p := by
  intro p hp
  unfold cutL at hp
  obtain ⟨q, hq, rfl⟩ := List.mem_map.1 hp
  refine ⟨h q (List.mem_of_mem_take hq), ?_⟩
  show (q.text.take 300).length ≤ 300
  rw [List.length_take]
  omega
theorem cutL_16 (ps : List Part) : (cutL ps).length ≤ 16 := by
  unfold cutL
  rw [List.length_map, List.length_take]
  omega
theorem cutL_len {ps : List Part} (h : ∀ p ∈ ps, p.ok) : (rowL (cutL ps)).length ≤ 4832 := by
  have h1 := rowL_len (cutL_ok h)
  have h2 := cutL_16 ps
  omega
theorem own_parts {W : World} {base n : Nat} {v : Value} {l : List Part} (h : W.ownsRow base 53 4 v n (flatP l)) (hn : n = l.length) : RowB W.heap.size W v 4 (l.map partV) :=
  RowB.of_owns h (by simpa using hn) (partV_len l) (Nat.le_refl _)

set_option maxRecDepth 100000 in
set_option maxHeartbeats 8000000 in
theorem back_walk (x : Option Addr) (N cap : Nat) (ps : List Part) (m : Nat) (hm : m < 256) (w : World) (hrow : RowB w.heap.size w (.slice x N cap) 4 (ps.map partV)) (hps : ∀ p ∈ ps, p.ok) :
    Calls Try.prog 5 #[.slice x N cap, .int .u8 (m : Int)] w fun e w' => e = .returned (.bool true) ∧ Below w.heap.size w w' := by
  obtain ⟨n, hn⟩ : ∃ n, w.heap.size = n := ⟨_, rfl⟩
  have hwk := works_any w
  have hok := cutL_ok hps
  have h16 := cutL_16 ps
  have hlen := cutL_len hps
  rw [hn] at hwk hrow ⊢
  go_enter Try.func5, Try.ntmps5
  go_wp2_with fail
  refine hwk.mono ?_
  clear hwk
  rintro e w1 ⟨rfl, hB1⟩
  have hz1 := hB1.size
  rw [hn] at hz1
  have hcut := cut_any x N cap ps w1 ((hrow.keep hB1 (Nat.le_refl _)).more hz1)
  replace hn := Lib.hid hn
  clear hrow
  go_wp2_with fail
  refine hcut.mono ?_
  clear hcut
  rintro e w2 ⟨⟨v, rfl, hown⟩, hb2⟩
  have hB2 := hB1.trans (hb2.mono hz1)
  have hz2 := Nat.le_trans hz1 hb2.size
  have hrow2 := own_parts hown rfl
  obtain ⟨L, hL⟩ : ∃ L, cutL ps = L := ⟨_, rfl⟩
  rw [hL] at hown hrow2 hok h16 hlen
  obtain ⟨xo, co, rfl, hco1, hco2⟩ := owns_slice hown
  obtain ⟨M, hM⟩ : ∃ M, L.length = M := ⟨_, rfl⟩
  rw [hM] at hrow2 h16 ⊢
  have hrw := row_any xo M co L w2 hrow2 hok (by omega)
  clear hown hb2 hB1 hz1 hL hco1 hco2
  obtain ⟨S, hS⟩ : ∃ S, rowL L = S := ⟨_, rfl⟩
  rw [hS] at hrw hlen
  go_wp2_with fail
  refine hrw.mono ?_
  clear hrw
  rintro e w3 ⟨rfl, hb3⟩
  have hB3 := hB2.trans (hb3.mono hz2)
  have hz3 := Nat.le_trans hz2 hb3.size
  have hrow3 := (hrow2.keep hb3 (Nat.le_refl _)).more hb3.size
  clear hb3 hB2 hrow2 hz2
  go_wp2_with fail
  refine (Read_any S _).mono ?_
  rintro e w4 ⟨rfl, hR4, hb4⟩
  have hB4 := hB3.trans (hb4.mono hz3)
  have hz4 := Nat.le_trans hz3 hb4.size
  have hrow4 := hrow3.keep hb4 (Nat.le_refl _)
  have hrd := reads_any w3.heap.size xo M co L [] w4 hrow4 hok (by omega) (by rw [hS, List.append_nil]; omega) (by rw [hS, List.append_nil]; exact hR4)
  obtain ⟨r, hr⟩ : ∃ r, w3.heap.size = r := ⟨_, rfl⟩
  have hr4 := hR4.inside
  rw [hr] at hR4 hrow4 hrd hz3 hr4 ⊢
  clear hb4 hB3 hrow3 hr hR4
  go_wp2_with fail
  refine hrd.mono ?_
  clear hrd
  rintro e w5 ⟨rfl, hR5, hg5⟩
  have hB5 := below_rd hB4 hg5 hz4 hz3
  have hz5 := Nat.le_trans hz4 hg5.size
  have hrow5 : RowB r w5 (.slice xo M co) 4 (L.map partV) := hrow4.keep (B := r) (C := r) ⟨hg5.os, hg5.tape, hg5.output, hg5.size, fun k hk => hg5.block k (by omega) (by simp; omega)⟩ (Nat.le_refl _)
  have hr5 := Nat.le_trans (Nat.le_of_lt hr4) hg5.size
  clear hB4 hz4 hg5 hrow4 hr4
  go_wp2_with fail
  refine (Left_any _ _ _ hR5).mono ?_
  rintro e w6 ⟨rfl, rfl⟩
  go_wp2_with fail
  refine (End_any _ _ _ hR5).mono ?_
  rintro e w7 ⟨rfl, rfl⟩
  have hcv := one_text w7 (UInt8.ofNat m)
  rw [ofNat_toNat hm] at hcv
  have hB8 := hB5.alloc hz5 (.cells #[.int .u8 (m : Int)] 5)
  have hz8 : n ≤ (w7.alloc (.cells #[.int .u8 (m : Int)] 5)).heap.size := by simp; omega
  have hr8 : r ≤ (w7.alloc (.cells #[.int .u8 (m : Int)] 5)).heap.size := by simp; omega
  have hrow8 := hrow5.keep (C := r) ((Below.refl r w7).alloc hr5 (.cells #[.int .u8 (m : Int)] 5)) (Nat.le_refl _)
  have hSl : ¬ 9223372036854775807 < S.length + 1 := by omega
  clear hR5 hB5 hz5 hrow5 hr5
  obtain ⟨b, hb⟩ : ∃ b, UInt8.ofNat m = b := ⟨_, rfl⟩
  rw [hb] at hcv
  have hSb : (S ++ [b]).length ≤ 9223372036854775000 := by rw [List.length_append]; simp; omega
  clear hb
  go_wp2_with fail
  generalize w7.alloc (.cells #[.int .u8 (m : Int)] 5) = w8 at hB8 hz8 hr8 hrow8 hcv ⊢
  refine (Read_any (S ++ [b]) _).mono ?_
  rintro e w9 ⟨rfl, hR9, hb9⟩
  have hB9 := hB8.trans (hb9.mono hz8)
  have hz9 := Nat.le_trans hz8 hb9.size
  have hrow9 := (hrow8.more hr8).keep hb9 (Nat.le_refl _)
  have hrd := reads_any w8.heap.size xo M co L [b] w9 hrow9 hok (by omega) (by rw [hS]; exact hSb) (by rw [hS]; exact hR9)
  obtain ⟨q, hq⟩ : ∃ q, w8.heap.size = q := ⟨_, rfl⟩
  rw [hq] at hrd hz8 ⊢
  clear hb9 hB8 hrow8 hq hR9 hrow9 hcv
  go_wp2_with fail
  refine hrd.mono ?_
  clear hrd
  rintro e w10 ⟨rfl, hR10, hg10⟩
  have hB10 := below_rd hB9 hg10 hz9 hz8
  clear hB9 hg10
  go_wp2_with fail
  refine (Left_any _ _ _ hR10).mono ?_
  rintro e w11 ⟨rfl, rfl⟩
  go_wp2_with fail
  refine (End_any _ _ _ hR10).mono ?_
  rintro e w12 ⟨rfl, rfl⟩
  go_wp2
  go_ret
  exact ⟨rfl, hB10⟩

end Go.Proofs.Ytjjmhkafhbeabaa.Oct
