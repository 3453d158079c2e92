/-
  The chapter's examples: works.
-/
import Derived.Test.YtkailfajemeeaaaDoorShaDigits
namespace Go.Proofs.YtkailfajemeeaaaDoor.Sha
open Go.RowKit Go.Sort Go.Shelf Go.Proofs.YtkailfajemeeaaaDoor.Mem Go.Proofs.YtkailfajemeeaaaDoor.Route
set_option linter.unusedVariables false

set_option maxRecDepth 100000 in
theorem hex_none : hexL (sumL []) = [101, 51, 98, 48, 99, 52, 52, 50, 57, 56, 102, 99, 49, 99, 49, 52, 57, 97, 102, 98, 102, 52, 99, 56, 57, 57, 54, 102, 98, 57, 50, 52, 50, 55, 97, 101, 52, 49, 101, 52, 54, 52, 57, 98, 57, 51, 52, 99, 97, 52, 57, 53, 57, 57, 49, 98, 55, 56, 53, 50, 98, 56, 53, 53] := by decide +kernel
theorem str_none : strOf (hexL (sumL [])) = ⟨#[101, 51, 98, 48, 99, 52, 52, 50, 57, 56, 102, 99, 49, 99, 49, 52, 57, 97, 102, 98, 102, 52, 99, 56, 57, 57, 54, 102, 98, 57, 50, 52, 50, 55, 97, 101, 52, 49, 101, 52, 54, 52, 57, 98, 57, 51, 52, 99, 97, 52, 57, 53, 57, 57, 49, 98, 55, 56, 53, 50, 98, 56, 53, 53]⟩ := by rw [hex_none]; rfl
theorem dig_none (w : World) : Calls Tryd.prog 15 #[.agg ((sumL []).map u8V).toArray] w fun e w' => e = .returned (.string ⟨#[101, 51, 98, 48, 99, 52, 52, 50, 57, 56, 102, 99, 49, 99, 49, 52, 57, 97, 102, 98, 102, 52, 99, 56, 57, 57, 54, 102, 98, 57, 50, 52, 50, 55, 97, 101, 52, 49, 101, 52, 54, 52, 57, 98, 57, 51, 52, 99, 97, 52, 57, 53, 57, 57, 49, 98, 55, 56, 53, 50, 98, 56, 53, 53]⟩) ∧ Below w.heap.size w w' := by
  rw [← str_none]
  exact digits_any _ (sumL_length _) (sumL_bytes _) w

set_option maxRecDepth 100000 in
theorem hex_abc : hexL (sumL [97, 98, 99]) = [98, 97, 55, 56, 49, 54, 98, 102, 56, 102, 48, 49, 99, 102, 101, 97, 52, 49, 52, 49, 52, 48, 100, 101, 53, 100, 97, 101, 50, 50, 50, 51, 98, 48, 48, 51, 54, 49, 97, 51, 57, 54, 49, 55, 55, 97, 57, 99, 98, 52, 49, 48, 102, 102, 54, 49, 102, 50, 48, 48, 49, 53, 97, 100] := by decide +kernel
theorem str_abc : strOf (hexL (sumL [97, 98, 99])) = ⟨#[98, 97, 55, 56, 49, 54, 98, 102, 56, 102, 48, 49, 99, 102, 101, 97, 52, 49, 52, 49, 52, 48, 100, 101, 53, 100, 97, 101, 50, 50, 50, 51, 98, 48, 48, 51, 54, 49, 97, 51, 57, 54, 49, 55, 55, 97, 57, 99, 98, 52, 49, 48, 102, 102, 54, 49, 102, 50, 48, 48, 49, 53, 97, 100]⟩ := by rw [hex_abc]; rfl
theorem dig_abc (w : World) : Calls Tryd.prog 15 #[.agg ((sumL [97, 98, 99]).map u8V).toArray] w fun e w' => e = .returned (.string ⟨#[98, 97, 55, 56, 49, 54, 98, 102, 56, 102, 48, 49, 99, 102, 101, 97, 52, 49, 52, 49, 52, 48, 100, 101, 53, 100, 97, 101, 50, 50, 50, 51, 98, 48, 48, 51, 54, 49, 97, 51, 57, 54, 49, 55, 55, 97, 57, 99, 98, 52, 49, 48, 102, 102, 54, 49, 102, 50, 48, 48, 49, 53, 97, 100]⟩) ∧ Below w.heap.size w w' := by
  rw [← str_abc]
  exact digits_any _ (sumL_length _) (sumL_bytes _) w

set_option maxRecDepth 100000 in
theorem hex_long : hexL (sumL [97, 98, 99, 100, 98, 99, 100, 101, 99, 100, 101, 102, 100, 101, 102, 103, 101, 102, 103, 104, 102, 103, 104, 105, 103, 104, 105, 106, 104, 105, 106, 107, 105, 106, 107, 108, 106, 107, 108, 109, 107, 108, 109, 110, 108, 109, 110, 111, 109, 110, 111, 112, 110, 111, 112, 113]) = [50, 52, 56, 100, 54, 97, 54, 49, 100, 50, 48, 54, 51, 56, 98, 56, 101, 53, 99, 48, 50, 54, 57, 51, 48, 99, 51, 101, 54, 48, 51, 57, 97, 51, 51, 99, 101, 52, 53, 57, 54, 52, 102, 102, 50, 49, 54, 55, 102, 54, 101, 99, 101, 100, 100, 52, 49, 57, 100, 98, 48, 54, 99, 49] := by decide +kernel
theorem str_long : strOf (hexL (sumL [97, 98, 99, 100, 98, 99, 100, 101, 99, 100, 101, 102, 100, 101, 102, 103, 101, 102, 103, 104, 102, 103, 104, 105, 103, 104, 105, 106, 104, 105, 106, 107, 105, 106, 107, 108, 106, 107, 108, 109, 107, 108, 109, 110, 108, 109, 110, 111, 109, 110, 111, 112, 110, 111, 112, 113])) = ⟨#[50, 52, 56, 100, 54, 97, 54, 49, 100, 50, 48, 54, 51, 56, 98, 56, 101, 53, 99, 48, 50, 54, 57, 51, 48, 99, 51, 101, 54, 48, 51, 57, 97, 51, 51, 99, 101, 52, 53, 57, 54, 52, 102, 102, 50, 49, 54, 55, 102, 54, 101, 99, 101, 100, 100, 52, 49, 57, 100, 98, 48, 54, 99, 49]⟩ := by rw [hex_long]; rfl
theorem dig_long (w : World) : Calls Tryd.prog 15 #[.agg ((sumL [97, 98, 99, 100, 98, 99, 100, 101, 99, 100, 101, 102, 100, 101, 102, 103, 101, 102, 103, 104, 102, 103, 104, 105, 103, 104, 105, 106, 104, 105, 106, 107, 105, 106, 107, 108, 106, 107, 108, 109, 107, 108, 109, 110, 108, 109, 110, 111, 109, 110, 111, 112, 110, 111, 112, 113]).map u8V).toArray] w fun e w' => e = .returned (.string ⟨#[50, 52, 56, 100, 54, 97, 54, 49, 100, 50, 48, 54, 51, 56, 98, 56, 101, 53, 99, 48, 50, 54, 57, 51, 48, 99, 51, 101, 54, 48, 51, 57, 97, 51, 51, 99, 101, 52, 53, 57, 54, 52, 102, 102, 50, 49, 54, 55, 102, 54, 101, 99, 101, 100, 100, 52, 49, 57, 100, 98, 48, 54, 99, 49]⟩) ∧ Below w.heap.size w w' := by
  rw [← str_long]
  exact digits_any _ (sumL_length _) (sumL_bytes _) w

set_option maxRecDepth 100000 in
theorem hex_fox : hexL (sumL [84, 104, 101, 32, 113, 117, 105, 99, 107, 32, 98, 114, 111, 119, 110, 32, 102, 111, 120, 32, 106, 117, 109, 112, 115, 32, 111, 118, 101, 114, 32, 116, 104, 101, 32, 108, 97, 122, 121, 32, 100, 111, 103]) = [100, 55, 97, 56, 102, 98, 98, 51, 48, 55, 100, 55, 56, 48, 57, 52, 54, 57, 99, 97, 57, 97, 98, 99, 98, 48, 48, 56, 50, 101, 52, 102, 56, 100, 53, 54, 53, 49, 101, 52, 54, 100, 51, 99, 100, 98, 55, 54, 50, 100, 48, 50, 100, 48, 98, 102, 51, 55, 99, 57, 101, 53, 57, 50] := by decide +kernel
theorem str_fox : strOf (hexL (sumL [84, 104, 101, 32, 113, 117, 105, 99, 107, 32, 98, 114, 111, 119, 110, 32, 102, 111, 120, 32, 106, 117, 109, 112, 115, 32, 111, 118, 101, 114, 32, 116, 104, 101, 32, 108, 97, 122, 121, 32, 100, 111, 103])) = ⟨#[100, 55, 97, 56, 102, 98, 98, 51, 48, 55, 100, 55, 56, 48, 57, 52, 54, 57, 99, 97, 57, 97, 98, 99, 98, 48, 48, 56, 50, 101, 52, 102, 56, 100, 53, 54, 53, 49, 101, 52, 54, 100, 51, 99, 100, 98, 55, 54, 50, 100, 48, 50, 100, 48, 98, 102, 51, 55, 99, 57, 101, 53, 57, 50]⟩ := by rw [hex_fox]; rfl
theorem dig_fox (w : World) : Calls Tryd.prog 15 #[.agg ((sumL [84, 104, 101, 32, 113, 117, 105, 99, 107, 32, 98, 114, 111, 119, 110, 32, 102, 111, 120, 32, 106, 117, 109, 112, 115, 32, 111, 118, 101, 114, 32, 116, 104, 101, 32, 108, 97, 122, 121, 32, 100, 111, 103]).map u8V).toArray] w fun e w' => e = .returned (.string ⟨#[100, 55, 97, 56, 102, 98, 98, 51, 48, 55, 100, 55, 56, 48, 57, 52, 54, 57, 99, 97, 57, 97, 98, 99, 98, 48, 48, 56, 50, 101, 52, 102, 56, 100, 53, 54, 53, 49, 101, 52, 54, 100, 51, 99, 100, 98, 55, 54, 50, 100, 48, 50, 100, 48, 98, 102, 51, 55, 99, 57, 101, 53, 57, 50]⟩) ∧ Below w.heap.size w w' := by
  rw [← str_fox]
  exact digits_any _ (sumL_length _) (sumL_bytes _) w

theorem bytes_ab : bytesOf ⟨#[97, 98]⟩ = [97, 98] := by decide
theorem bytes_c : bytesOf ⟨#[99]⟩ = [99] := by decide
theorem bytes_long : bytesOf ⟨#[97, 98, 99, 100, 98, 99, 100, 101, 99, 100, 101, 102, 100, 101, 102, 103, 101, 102, 103, 104, 102, 103, 104, 105, 103, 104, 105, 106, 104, 105, 106, 107, 105, 106, 107, 108, 106, 107, 108, 109, 107, 108, 109, 110, 108, 109, 110, 111, 109, 110, 111, 112, 110, 111, 112, 113]⟩ = [97, 98, 99, 100, 98, 99, 100, 101, 99, 100, 101, 102, 100, 101, 102, 103, 101, 102, 103, 104, 102, 103, 104, 105, 103, 104, 105, 106, 104, 105, 106, 107, 105, 106, 107, 108, 106, 107, 108, 109, 107, 108, 109, 110, 108, 109, 110, 111, 109, 110, 111, 112, 110, 111, 112, 113] := by decide +kernel
theorem bytes_fox : bytesOf ⟨#[84, 104, 101, 32, 113, 117, 105, 99, 107, 32, 98, 114, 111, 119, 110, 32, 102, 111, 120, 32, 106, 117, 109, 112, 115, 32, 111, 118, 101, 114, 32, 116, 104, 101, 32, 108, 97, 122, 121, 32, 100, 111, 103]⟩ = [84, 104, 101, 32, 113, 117, 105, 99, 107, 32, 98, 114, 111, 119, 110, 32, 102, 111, 120, 32, 106, 117, 109, 112, 115, 32, 111, 118, 101, 114, 32, 116, 104, 101, 32, 108, 97, 122, 121, 32, 100, 111, 103] := by decide +kernel

set_option maxRecDepth 100000 in
set_option maxHeartbeats 4000000 in
theorem works_any (w : World) (hsg : Sg w) : Calls Tryd.prog 10 #[] w fun e w' => e = .returned (.bool true) ∧ Below w.heap.size w w' := by
  obtain ⟨k, hk⟩ : ∃ k, w.heap.size = k := ⟨_, rfl⟩
  have hp1 := hsg.posh
  have hp2 := hsg.posk
  rw [hk] at hp1 hp2
  have hnew := new_any w hsg
  rw [hk] at hnew
  go_enter Tryd.func10, Tryd.ntmps10
  go_wp2_with fail
  refine hnew.mono ?_
  clear hnew
  rintro e w1 ⟨rfl, hh1, hb1⟩
  have hsg1 : Sg w1 := hsg.keep hb1 hp1 hp2
  replace hk := Lib.hid hk
  go_wp2_with fail
  refine (sumOf_any k [] w1 hh1 (by simp) hsg1).mono ?_
  rintro e w2 ⟨rfl, hb2⟩
  have hB2 := hb1.trans (hb2.mono (Nat.le_of_lt hh1.inside))
  have hh2 := hh1.on hb2
  have hsg2 := hsg1.on hb2
  clear hb1 hb2 hh1 hsg1 hsg
  obtain ⟨m, hm⟩ : ∃ m, w2.heap.size = m := ⟨_, rfl⟩
  have hkm : k < m := by have := hh2.inside; omega
  obtain ⟨D, hD⟩ : ∃ D, (sumL []).map u8V = D := ⟨_, rfl⟩
  have hDl : D.length = 32 := by rw [← hD, List.length_map, sumL_length]
  have hz0 : AtL (w2.alloc (.cells (padB 32 []).toArray 23)) m 23 (padB 32 []) := by rw [← hm]; exact AtL.new w2 _ _
  have hG3 : w2.grownBy ((w2.alloc (.cells (padB 32 []).toArray 23)).setRow m D.toArray) none := ⟨rfl, rfl, rfl, by simp, fun j hj _ => (setRow_other _ _ _ _ (by omega)).trans (Below.heap_alloc w2 _ j hj)⟩
  have hB3 := below_row (hB2.alloc (show k ≤ w2.heap.size by omega) (.cells (padB 32 []).toArray 23)) (show k ≤ m by omega) D.toArray
  have hD3 := hz0.row D
  have hh3 : HashAt ((w2.alloc (.cells (padB 32 []).toArray 23)).setRow m D.toArray) k [] := hh2.same (hG3.block k (by omega) (by simp))
  have hsg3 : Sg ((w2.alloc (.cells (padB 32 []).toArray 23)).setRow m D.toArray) := hsg2.same (hG3.block _ hsg2.posh (by simp)) (hG3.block _ hsg2.posk (by simp))
  have ho := Lib.hid (show (padB 32 []).toArray.size = D.toArray.size by simp [hDl, padB])
  have h1 := Lib.hid (show D.toArray.all (·.oneCell') = true from Array.all_eq_true_iff_forall_mem.2 fun v hv => (by rw [← hD] at hv; exact one_u8 v (by simpa using hv)))
  have hI := Lib.hid (show (Tryd.prog.info? 23).map (·.size) = some D.toArray.size by rw [show D.toArray.size = 32 by simpa using hDl]; kernel_rfl)
  rw [hD]
  have hm' := Lib.hid hm
  clear hG3 hB2 hh2 hsg2
  go_upto_region 5 with (refine wpList_store_row rfl 23 _ _ rfl m D.toArray (by rw [← hm'.out]; rfl) rfl 23 (padB 32 []).toArray hz0 hI.out ho.out h1.out ?_)
  generalize hz : World.setRow (World.alloc w2 _) m D.toArray = w3
  replace hB3 : Below k w w3 := by rw [← hz]; exact hB3
  replace hD3 : AtL w3 m 23 D := by rw [← hz]; exact hD3
  replace hh3 : HashAt w3 k [] := by rw [← hz]; exact hh3
  replace hsg3 : Sg w3 := by rw [← hz]; exact hsg3
  clear hz hz0 ho h1
  have hw4 := write_any k [] ⟨#[97, 98]⟩ w3 hh3 (by simp; decide) hsg3 (by omega) (by omega)
  rw [bytes_ab] at hw4
  go_wp2_with fail
  refine hw4.mono ?_
  clear hw4
  rintro e w4 ⟨⟨v4, rfl⟩, hh4, hg4⟩
  have hD4 := hD3.grown hg4 (by omega)
  have hB4 : Below k w w4 := hB3.grown hg4 (by have := hh3.inside; omega) (fun r e => by cases e; omega)
  have hsg4 : Sg w4 := hsg3.same (hg4.block _ hsg3.posh (by simp; omega)) (hg4.block _ hsg3.posk (by simp; omega))
  clear hD3 hB3 hh3 hsg3 hg4
  have hw5 := write_any k ([] ++ [97, 98]) ⟨#[99]⟩ w4 hh4 (by simp; decide) hsg4 (by omega) (by omega)
  rw [bytes_c] at hw5
  go_wp2_with fail
  refine hw5.mono ?_
  clear hw5
  rintro e w5 ⟨⟨v5, rfl⟩, hh5, hg5⟩
  have hD5 := hD4.grown hg5 (by omega)
  have hB5 : Below k w w5 := hB4.grown hg5 (by have := hh4.inside; omega) (fun r e => by cases e; omega)
  have hsg5 : Sg w5 := hsg4.same (hg5.block _ hsg4.posh (by simp; omega)) (hg5.block _ hsg4.posk (by simp; omega))
  clear hD4 hB4 hh4 hsg4 hg5
  replace hh5 : HashAt w5 k [97, 98, 99] := hh5
  have hd := dig_none
  rw [hD] at hd
  go_wp2_with (refine wpList_load_row rfl 23 _ rfl m rfl 23 D.toArray (0, 0) _ hD5 Tryd.underlying23 rfl hI.out ?_)
  refine (hd _).mono ?_
  clear hd
  rintro e w6 ⟨rfl, hb6⟩
  have hB6 := hB5.trans (hb6.mono (Nat.le_of_lt hh5.inside))
  have hh6 := hh5.on hb6
  have hsg6 := hsg5.on hb6
  clear hB5 hh5 hsg5 hb6 hD5 hI hD hDl
  go_wp2_with fail
  refine (sumOf_any k [97, 98, 99] w6 hh6 (by simp) hsg6).mono ?_
  rintro e w7 ⟨rfl, hb7⟩
  go_wp2_with fail
  refine (dig_abc _).mono ?_
  rintro e w8 ⟨rfl, hb8⟩
  have hB8 := (hB6.trans (hb7.mono (Nat.le_of_lt hh6.inside))).trans (hb8.mono (by have := hh6.inside; have := hb7.size; omega))
  have hsg8 := (hsg6.on hb7).on hb8
  have hsz8 : k ≤ w8.heap.size := by have := hh6.inside; have := hb7.size; have := hb8.size; omega
  clear hB6 hh6 hsg6 hb7 hb8
  have hps := psum_any ⟨#[97, 98, 99, 100, 98, 99, 100, 101, 99, 100, 101, 102, 100, 101, 102, 103, 101, 102, 103, 104, 102, 103, 104, 105, 103, 104, 105, 106, 104, 105, 106, 107, 105, 106, 107, 108, 106, 107, 108, 109, 107, 108, 109, 110, 108, 109, 110, 111, 109, 110, 111, 112, 110, 111, 112, 113]⟩ (by decide) w8 hsg8
  rw [bytes_long] at hps
  go_wp2_with fail
  refine hps.mono ?_
  clear hps
  rintro e w9 ⟨rfl, hb9⟩
  go_wp2_with fail
  refine (dig_long _).mono ?_
  rintro e wa ⟨rfl, hba⟩
  have hBa := Lib.hid ((hB8.trans (hb9.mono hsz8)).trans (hba.mono (Nat.le_trans hsz8 hb9.size)))
  clear hB8 hsg8 hb9 hba
  go_wp2
  go_ret
  rw [hk.out]
  exact ⟨rfl, hBa.out⟩

end Go.Proofs.YtkailfajemeeaaaDoor.Sha
