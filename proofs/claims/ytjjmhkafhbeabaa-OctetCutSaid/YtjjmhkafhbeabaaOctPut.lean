/-
  The program's Put: its widths, a number's bytes, what is joined.
-/
import Derived.Test.YtjjmhkafhbeabaaRow
import Derived.Test.YtjjmhkafhbeabaaOctArr
import Derived.Lib.SlBuf
namespace Go.Proofs.Ytjjmhkafhbeabaa.Oct
open Go.RowKit Go.Sort Go.Proofs.Ytjjmhkafhbeabaa.Mem Go.Proofs.Ytjjmhkafhbeabaa.Route
set_option linter.unusedVariables false

theorem info_u8S : (Try.prog.info? 5).map (fun i => (i.zero, i.size, i.bytes)) = some (some (.int .u8 0), 1, 1) := by kernel_rfl
def intOf : Value → Int
  | .int _ n => n
  | _ => 0
theorem ret_bool' {a b : Bool} (h : a = b) : Ending.returned (.bool a) = .returned (.bool b) := by rw [h]
theorem isWidth_any (k : Int) (w : World) : Calls Try.prog 37 #[.int .i64 k] w fun e w' => e = .returned (.bool (isW k)) ∧ w' = w := by
  have h := Lib.hid (show isW k = (decide (1 ≤ k) && decide (k ≤ 8)) by simp [isW])
  go_enter Try.func37, Try.ntmps37
  by_cases h1 : 1 ≤ k
  · have t1 : decide (1 ≤ k) = true := decide_eq_true h1
    go_wp2
    go_ret
    exact ⟨ret_bool (by rw [h.out, t1]; rfl), rfl⟩
  · have t1 : decide (1 ≤ k) = false := decide_eq_false h1
    go_wp2
    go_ret
    exact ⟨ret_bool (by rw [h.out, t1]; rfl), rfl⟩

set_option maxRecDepth 100000 in
set_option maxHeartbeats 4000000 in
theorem laid_any (n k : Nat) (hn : n < 18446744073709551616) (h1 : 1 ≤ k) (h8 : k ≤ 8) (w : World) :
    Calls Try.prog 39 #[.int .u64 (n : Int), .int .i64 (k : Int)] w fun e w' => e = .returned (.slice (some ⟨w.heap.size, 0, none⟩) k k) ∧ (∀ j b, (laidL n k)[j]? = some b → w'.cell? ⟨w.heap.size, j, none⟩ = some (u8V b)) ∧ Below w.heap.size w w' := by
  have hA0 := AtL.new w 72 (laidC n k 0)
  rw [laidC_none] at hA0
  have hB0 : Below w.heap.size w (w.alloc (.cells #[.int .u8 0, .int .u8 0, .int .u8 0, .int .u8 0, .int .u8 0, .int .u8 0, .int .u8 0, .int .u8 0] 72)) := (Below.refl _ _).alloc (Nat.le_refl _) _
  have h8' : (k : Int) ≤ 8 := by omega
  go_enter Try.func39, Try.ntmps39
  go_wp2_with fail
  go_loopw [8] (fun c wr => ∃ j : Nat, c = .int .i64 (j : Int) ∧ j ≤ k ∧ Hid (AtL wr w.heap.size 72 (laidC n k j)) ∧ Hid (Below w.heap.size w wr))
    (fun c _ => k - (intOf c).toNat)
  case atStart => exact ⟨0, rfl, Nat.zero_le _, Lib.hid (by rw [laidC_none]; exact hA0), Lib.hid hB0⟩
  case round =>
    clear hA0 hB0
    obtain ⟨j, rfl, hjk, hA, hB⟩ := hrel
    by_cases hlt : j < k
    · obtain ⟨m, hm⟩ : ∃ m, k - 1 - j = m := ⟨_, rfl⟩
      obtain ⟨q, hq⟩ : ∃ q, 8 * j = q := ⟨_, rfl⟩
      have e1 : (k : Int) - 1 - (j : Int) = (m : Int) := by omega
      have e2 : (8 : Int) * (j : Int) = (q : Int) := by omega
      have hm8 : m < 8 := by omega
      have hq64 : q < 64 := by omega
      have hlt' : (j : Int) < (k : Int) := by omega
      have hset := laidC_set (n := n) hlt h8
      rw [hm, hq] at hset
      have hl8 : (laidC n k j).length = 8 := by simp [laidC]
      obtain ⟨x, hx⟩ : ∃ x, (laidC n k j)[m]? = some x := ⟨_, List.getElem?_eq_getElem (by omega)⟩
      have hc := hA.out.get hx
      have hf := hA.out.free m
      have hA' := Lib.hid (show AtL (wr.setCell ⟨w.heap.size, m, none⟩ (.int .u8 ((n / 2 ^ q % 256 : Nat) : Int))) w.heap.size 72 (laidC n k (j + 1)) by rw [← hset]; exact hA.out.put m _)
      have hB' := Lib.hid (below_set hB.out (Nat.le_refl _) m (.int .u8 ((n / 2 ^ q % 256 : Nat) : Int)))
      have hcast : ((n / 2 ^ q % 256 : Nat) : Int) = (n : Int) / 2 ^ q % 256 := by simp
      rw [hcast] at hA' hB'
      clear hset hx hl8 hA hB hm hq hcast
      go_wp2_with fail
      go_roundw
      case rel => exact ⟨j + 1, by go_num, by omega, hA', hB'⟩
      case measure => simp [intOf]; omega
    · obtain rfl : j = k := by omega
      have hget := fun i b (hb : (laidL n j)[i]? = some b) => hA.out.get (laidC_get (by have := (List.getElem?_eq_some_iff.1 hb).1; rwa [laidL_length] at this) h8 hb)
      have hgetH := Lib.hid hget
      clear hget hA hlt hjk
      go_wp2
      go_ret
      exact ⟨rfl, hgetH.out, hB.out⟩

set_option maxRecDepth 100000 in
set_option maxHeartbeats 4000000 in
theorem join_any (s m : Bs) (k h cap : Nat) (hk : m.length = k) (hk1 : 1 ≤ k) (hs : s.length + k ≤ 281474976710656) (w : World) (hh : h < w.heap.size) (hc : ∀ j b, m[j]? = some b → w.cell? ⟨h, j, none⟩ = some (u8V b)) :
    Calls Try.prog 38 #[.string (str s), .slice (some ⟨h, 0, none⟩) k cap] w fun e w' => e = .returned (.string (str (s ++ m))) ∧ Below w.heap.size w w' := by
  obtain ⟨i0, hi, hz0, hz1, hz2⟩ := info_parts info_u8S
  have hsz : (Try.prog.info? 5).map (·.size) = some 1 := by rw [hi, ← hz1]; rfl
  obtain ⟨N, hN⟩ : ∃ N, s.length + k = N := ⟨_, rfl⟩
  have hmk := make_zeros (P := Try.prog) w 49 5 i0 Try.underlying49 hi hz0 hz1 hz2 N (by omega)
  have hA1 := AtL.new w 5 (List.replicate N (Value.int .u8 0))
  have hB1 : Below w.heap.size w (w.alloc (.cells (List.replicate N (Value.int .u8 0)).toArray 5)) := (Below.refl _ _).alloc (Nat.le_refl _) _
  generalize w.alloc (.cells (List.replicate N (Value.int .u8 0)).toArray 5) = w1 at hmk hA1 hB1
  have hc1 := copy_text (P := Try.prog) w1 49 9 3 5 w.heap.size N N s 5 Try.underlying49 hsz hA1 (by omega)
  have hA2 := hA1.row (s.map u8V ++ List.replicate (N - s.length) (Value.int .u8 0))
  have hB2 := below_row hB1 (Nat.le_refl _) (s.map u8V ++ List.replicate (N - s.length) (Value.int .u8 0)).toArray
  generalize w1.setRow w.heap.size (s.map u8V ++ List.replicate (N - s.length) (Value.int .u8 0)).toArray = w2 at hc1 hA2 hB2
  have hc2 := copy_behind (P := Try.prog) w2 49 49 3 5 w.heap.size N s.length (N - s.length) h k cap s m 5 Try.underlying49 hsz hA2 rfl hk (by omega) (fun j b hb => (hB2.cell (p := ⟨h, j, none⟩) hh).trans (hc j b hb))
  have hA3 := hA2.row ((s ++ m).map u8V)
  have hB3 := below_row hB2 (Nat.le_refl _) ((s ++ m).map u8V).toArray
  generalize w2.setRow w.heap.size ((s ++ m).map u8V).toArray = w3 at hc2 hA3 hB3
  have hcv := cells_text (P := Try.prog) w3 49 9 5 Try.underlying49 Try.underlying5 Try.underlying9 w.heap.size N N (s ++ m) (by rw [List.length_append]; omega) hA3.bytes
  have e1 : (s.length : Int) + (k : Int) = (N : Int) := by omega
  have hNb : (N : Int) ≤ 281474976710656 := by omega
  have hsN : (s.length : Int) ≤ (N : Int) := by omega
  have e2 : N - s.length = k := by omega
  have hne : ¬ N = s.length := by omega
  rw [e2] at hc2
  have hB3' := Lib.hid hB3
  clear hA1 hA2 hA3 hB1 hB2 hB3 hN hs hc hi hz0 hz1 hz2 hsz hk
  go_enter Try.func38, Try.ntmps38
  go_wp2_with (at_builtin; first | (refine Lib.wpList_copy_run _ rfl _ _ _ _ rfl _ _ rfl rfl hc1 ?_) | (refine Lib.wpList_copy_run _ rfl _ _ _ _ rfl _ _ rfl rfl hc2 ?_))
  go_ret
  exact ⟨rfl, hB3'.out⟩

end Go.Proofs.Ytjjmhkafhbeabaa.Oct
