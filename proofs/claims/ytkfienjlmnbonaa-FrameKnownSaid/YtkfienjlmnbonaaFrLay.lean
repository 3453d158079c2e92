/-
  The program's Lay, and the document's.
-/
import Derived.Test.YtkfienjlmnbonaaRow
import Derived.Test.YtkfienjlmnbonaaOctArr
import Derived.Test.YtkfienjlmnbonaaFrMath
import Derived.Lib.SlBuf
namespace Go.Proofs.Ytkfienjlmnbonaa.Fr
open Go.RowKit Go.Sort Go.Proofs.Ytkfienjlmnbonaa.Mem Go.Proofs.Ytkfienjlmnbonaa.Route Go.Proofs.Ytkfienjlmnbonaa.Oct
set_option linter.unusedVariables false
attribute [local go_sem] str_append str_from str_to

theorem u8_of (n : Nat) : ((UInt8.ofNat n).toNat : Int) = ((n % 256 : Nat) : Int) := by rw [UInt8.toNat_ofNat']
theorem frL_cells {k : Nat} {b : Bs} (hk : k < 256) (hb : b.length < 65536) : ((frL k b).take 3).map u8V = [.int .u8 (k : Int), .int .u8 ((b.length : Int) / 256), .int .u8 ((b.length : Int) % 256)] := by
  simp only [frL, List.take_succ_cons, List.take_zero, List.map_cons, List.map_nil, u8V, u8_of]
  rw [Nat.mod_eq_of_lt hk, show b.length / 256 % 256 = b.length / 256 by omega, Nat.mod_mod]
  rfl
theorem frL_join (k : Nat) (b : Bs) : (frL k b).take 3 ++ b = frL k b := by simp [frL]

set_option maxRecDepth 100000 in
set_option maxHeartbeats 4000000 in
theorem Lay_ok (k : Nat) (b : Bs) (hk : k < 256) (hb : b.length < 65536) (w : World) :
    Calls Try.prog 9 #[.int .i64 (k : Int), .string (str b)] w fun e w' => e = .returned (.tuple #[.string (str (frL k b)), .int .i64 0]) ∧ Below w.heap.size w w' := by
  have hA := AtL.new w 44 (((frL k b).take 3).map u8V)
  have hB : Below w.heap.size w (w.alloc (.cells (((frL k b).take 3).map u8V).toArray 44)) := (Below.refl _ _).alloc (Nat.le_refl _) _
  rw [frL_cells hk hb] at hA hB
  have hcv := fun W (h : AtL W w.heap.size 44 (((frL k b).take 3).map u8V)) => cells_text (P := Try.prog) W 41 9 5 Try.underlying41 Try.underlying5 Try.underlying9 w.heap.size 3 3 ((frL k b).take 3) rfl h.bytes
  rw [frL_cells hk hb] at hcv
  replace hcv := hcv _ hA
  have hj := frL_join k b
  have hk0 : ¬ (k : Int) < 0 := by omega
  have hk1 : ¬ (255 < (k : Int)) := by omega
  have hb1 : ¬ (65535 < (b.length : Int)) := by omega
  have hB' := Lib.hid hB
  clear hA hB
  go_enter Try.func9, Try.ntmps9
  go_wp2
  go_ret2
  exact ⟨rfl, hB'.out⟩
theorem Lay_any (k : Int) (b : Bs) (hb : b.length ≤ 9223372036854775807) (w : World) :
    Calls Try.prog 9 #[.int .i64 k, .string (str b)] w fun e w' => e = .returned (.tuple #[.string (str (layB k b)), .int .i64 (layE k b.length)]) ∧ Below w.heap.size w w' := by
  by_cases h1 : k < 0 ∨ 255 < k
  · rw [layB, layE, if_pos h1, if_pos h1]
    go_enter Try.func9, Try.ntmps9
    rcases h1 with h1 | h1
    · go_wp2
      go_ret2
      exact ⟨rfl, .refl _ _⟩
    · have h2 : ¬ k < 0 := by omega
      go_wp2
      go_ret2
      exact ⟨rfl, .refl _ _⟩
  · rw [layB, layE, if_neg h1, if_neg h1]
    have h2 : ¬ k < 0 := by omega
    have h3 : ¬ 255 < k := by omega
    by_cases hb1 : 65535 < b.length
    · rw [if_pos hb1, if_pos hb1]
      have hb2 : (65535 : Int) < (b.length : Int) := by omega
      clear h1
      go_enter Try.func9, Try.ntmps9
      go_wp2
      go_ret2
      exact ⟨rfl, .refl _ _⟩
    · rw [if_neg hb1, if_neg hb1]
      obtain ⟨m, rfl⟩ : ∃ m : Nat, k = (m : Int) := ⟨k.toNat, by omega⟩
      exact Lay_ok m b (by omega) (by omega) w

set_option maxRecDepth 100000 in
set_option maxHeartbeats 4000000 in
theorem refLay_ok (k : Nat) (b : Bs) (hk : k < 256) (hb : b.length < 65536) (w : World) :
    Calls Try.prog 10 #[.int .i64 (k : Int), .string (str b)] w fun e w' => e = .returned (.tuple #[.string (str (frL k b)), .int .i64 0]) ∧ Below w.heap.size w w' := by
  have hA := AtL.new w 5 (((frL k b).take 3).map u8V)
  have hB : Below w.heap.size w (w.alloc (.cells (((frL k b).take 3).map u8V).toArray 5)) := (Below.refl _ _).alloc (Nat.le_refl _) _
  rw [frL_cells hk hb] at hA hB
  have hcv := fun W (h : AtL W w.heap.size 5 (((frL k b).take 3).map u8V)) => cells_text (P := Try.prog) W 41 9 5 Try.underlying41 Try.underlying5 Try.underlying9 w.heap.size 3 3 ((frL k b).take 3) rfl h.bytes
  rw [frL_cells hk hb] at hcv
  replace hcv := hcv _ hA
  have hj := frL_join k b
  have hk0 : ¬ (k : Int) < 0 := by omega
  have hk1 : ¬ (255 < (k : Int)) := by omega
  have hb1 : ¬ (65535 < (b.length : Int)) := by omega
  have hB' := Lib.hid hB
  clear hA hB
  go_enter Try.func10, Try.ntmps10
  go_wp2
  go_ret2
  exact ⟨rfl, hB'.out⟩
theorem refLay_any (k : Int) (b : Bs) (hb : b.length ≤ 9223372036854775807) (w : World) :
    Calls Try.prog 10 #[.int .i64 k, .string (str b)] w fun e w' => e = .returned (.tuple #[.string (str (layB k b)), .int .i64 (layE k b.length)]) ∧ Below w.heap.size w w' := by
  by_cases h1 : k < 0 ∨ 255 < k
  · rw [layB, layE, if_pos h1, if_pos h1]
    go_enter Try.func10, Try.ntmps10
    rcases h1 with h1 | h1
    · go_wp2
      go_ret2
      exact ⟨rfl, .refl _ _⟩
    · have h2 : ¬ k < 0 := by omega
      go_wp2
      go_ret2
      exact ⟨rfl, .refl _ _⟩
  · rw [layB, layE, if_neg h1, if_neg h1]
    have h2 : ¬ k < 0 := by omega
    have h3 : ¬ 255 < k := by omega
    by_cases hb1 : 65535 < b.length
    · rw [if_pos hb1, if_pos hb1]
      have hb2 : (65535 : Int) < (b.length : Int) := by omega
      clear h1
      go_enter Try.func10, Try.ntmps10
      go_wp2
      go_ret2
      exact ⟨rfl, .refl _ _⟩
    · rw [if_neg hb1, if_neg hb1]
      obtain ⟨m, rfl⟩ : ∃ m : Nat, k = (m : Int) := ⟨k.toNat, by omega⟩
      exact refLay_ok m b (by omega) (by omega) w

end Go.Proofs.Ytkfienjlmnbonaa.Fr
