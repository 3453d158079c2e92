import Derived.Test.YtpefdmkfmcjfnaaPkMsWalk

namespace Go.Proofs.Ytpefdmkfmcjfnaa.Oct
open Go.RowKit Go.Sort Go.Proofs.Ytpefdmkfmcjfnaa.Mem Go.Proofs.Ytpefdmkfmcjfnaa.Route
set_option linter.unusedVariables false
attribute [local go_sem] str_append str_from str_to
theorem ret_sb {a b : Bs} {c d : Bool} (h : a = b) (h2 : c = d) : Ending.returned (.tuple #[.string (str a), .bool c]) = .returned (.tuple #[.string (str b), .bool d]) := by rw [h, h2]
theorem div_next (n j : Nat) : n / 2 ^ (8 * (j + 1)) = n / 2 ^ (8 * j) / 256 := by rw [Nat.div_div_eq_div_mul, Nat.mul_add, Nat.pow_add]
theorem ofNat_toNat {r : Nat} (h : r < 256) : ((UInt8.ofNat r).toNat : Int) = (r : Int) := by
 rw [UInt8.toNat_ofNat']
 omega
theorem one_text (w : World) (b : UInt8) : (convert 26 9 (.slice (some ⟨w.heap.size, 0, none⟩) 1 1)).run Try.prog (w.alloc (.cells #[.int .u8 (b.toNat : Int)] 5)) = .ok (.string (str [b])) (w.alloc (.cells #[.int .u8 (b.toNat : Int)] 5)) :=
 cells_text (P := Try.prog) _ 26 9 5 Try.underlying26 Try.underlying5 Try.underlying9 w.heap.size 1 1 [b] rfl fun j c hc => by
  match j, hc with
  | 0, hc =>
   cases hc
   exact (AtL.new w 5 [u8V b]).get rfl
set_option maxRecDepth 100000 in
set_option maxHeartbeats 4000000 in
theorem refLaid_any (n k : Nat) (hn : n < 18446744073709551616) (h8 : k ≤ 8) (w : World) :
 Calls Try.prog 25 #[.int .u64 (n : Int), .int .i64 (k : Int)] w fun e w' => e = .returned (.tuple #[.string (str (laidL n k)), .bool (decide (n < 2 ^ (8 * k)))]) ∧ Below w.heap.size w w' := by
 have h8' : (k : Int) ≤ 8 := by omega
 have hfin := Lib.hid (show (n / 2 ^ (8 * k) = 0) ↔ n < 2 ^ (8 * k) by
  rw [Nat.div_eq_zero_iff]
  have := Nat.pow_pos (n := 8 * k) (show 0 < 2 by decide)
  omega)
 go_enter Try.func25, Try.ntmps25
 go_wp2_with fail
 go_loopw [0, 6, 7] (fun v s c wr => ∃ j : Nat, c = .int .i64 (j : Int) ∧ j ≤ k ∧ v = .int .u64 ((n / 2 ^ (8 * j) : Nat) : Int) ∧ s = .string (str (laidL n j)) ∧ Hid (Below w.heap.size w wr))
  (fun _ _ c _ => k - (intOf c).toNat)
 case atStart => exact ⟨0, rfl, Nat.zero_le _, by simp, rfl, Lib.hid (Below.refl _ _)⟩
 case round =>
  obtain ⟨j, rfl, hjk, rfl, rfl, hB⟩ := hrel
  have hV64 : n / 2 ^ (8 * j) < 18446744073709551616 := Nat.lt_of_le_of_lt (Nat.div_le_self _ _) hn
  by_cases hlt : j < k
  · have hlt' : (j : Int) < (k : Int) := by omega
    have hlj : (laidL n j).length < 9 := by rw [laidL_length]; omega
    have hnx := Lib.hid (div_next n j)
    have hla := Lib.hid (show laidL n (j + 1) = UInt8.ofNat (n / 2 ^ (8 * j) % 256) :: laidL n j from rfl)
    obtain ⟨L, hL⟩ : ∃ L, laidL n j = L := ⟨_, rfl⟩
    rw [hL] at hla hlj ⊢
    obtain ⟨V, hV⟩ : ∃ V, n / 2 ^ (8 * j) = V := ⟨_, rfl⟩
    rw [hV] at hnx hla hV64 ⊢
    obtain ⟨r, hr⟩ : ∃ r, V % 256 = r := ⟨_, rfl⟩
    have hr256 : r < 256 := by omega
    rw [hr] at hla
    have hcv := one_text wr (UInt8.ofNat r)
    rw [ofNat_toNat hr256] at hcv
    have e1 : (V : Int) % 256 = (r : Int) := by omega
    have e1' : (V : Int).tmod 256 = (r : Int) := by rw [Int.tmod_eq_emod_of_nonneg (by omega)]; omega
    obtain ⟨q, hq⟩ : ∃ q, V / 256 = q := ⟨_, rfl⟩
    rw [hq] at hnx
    have e2 : (V : Int) / 256 = (q : Int) := by omega
    have e2' : (V : Int).tdiv 256 = (q : Int) := by rw [Int.tdiv_eq_ediv_of_nonneg (by omega)]; omega
    have hri : (r : Int) ≤ 255 := by omega
    have hqi : (q : Int) ≤ 18446744073709551615 := by omega
    have hB' := Lib.hid (hB.out.alloc hB.out.size (.cells #[.int .u8 (r : Int)] 5))
    have hll : (L.length : Int) < 9 := by omega
    clear hL hV hr hq hV64 hr256 hB hlj
    go_wp2_with fail
    go_roundw
    case rel => exact ⟨j + 1, by go_num, by omega, by rw [hnx.out], by rw [hla.out], hB'⟩
    case measure => simp [intOf]; omega
  · obtain rfl : j = k := by omega
    clear hlt
    have hf := hfin.out
    obtain ⟨V, hV⟩ : ∃ V, n / 2 ^ (8 * j) = V := ⟨_, rfl⟩
    rw [hV] at hf hV64 ⊢
    have hr := Lib.hid (show ((V : Int) == 0) = decide (n < 2 ^ (8 * j)) by
     rw [Bool.eq_iff_iff, beq_iff_eq, decide_eq_true_eq, ← hf]
     omega)
    clear hf hfin hV hV64
    go_wp2
    go_ret2
    exact ⟨ret_sb rfl hr.out, hB.out⟩
end Go.Proofs.Ytpefdmkfmcjfnaa.Oct
namespace Go.Proofs.Ytpefdmkfmcjfnaa.Ms
open Go.RowKit Go.Sort Go.Proofs.Ytpefdmkfmcjfnaa.Mem Go.Proofs.Ytpefdmkfmcjfnaa.Route Go.Proofs.Ytpefdmkfmcjfnaa.Oct Go.Proofs.Ytpefdmkfmcjfnaa.Part
set_option linter.unusedVariables false
attribute [local go_sem] str_append
theorem ret_str {a b : Bs} (h : a = b) : Ending.returned (.string (str a)) = .returned (.string (str b)) := by rw [h]
set_option maxRecDepth 100000 in
set_option maxHeartbeats 4000000 in
theorem num_nat (n k : Nat) (hn : n ≤ 4294967296) (hk : k ≤ 8) (w : World) :
 Calls Try.prog 24 #[.int .i64 (n : Int), .int .i64 (k : Int)] w fun e w' => e = .returned (.string (str (laidL n k))) ∧ Below w.heap.size w w' := by
 have hl := Lib.hid (refLaid_any n k (by omega) hk w)
 have h1 : (n : Int) ≤ 4294967296 := by omega
 generalize laidL n k = L at hl ⊢
 clear hn hk
 go_enter Try.func24, Try.ntmps24
 go_wp2_with fail
 refine hl.out.mono ?_
 rintro e w1 ⟨rfl, hB⟩
 go_wp2
 go_ret
 exact ⟨rfl, hB⟩
def Fit (n : Int) : Prop := 0 ≤ n ∧ n ≤ 4294967296
theorem num_any (n : Int) (k : Nat) (h : Fit n) (hk : k ≤ 8) (w : World) :
 Calls Try.prog 24 #[.int .i64 n, .int .i64 (k : Int)] w fun e w' => e = .returned (.string (str (lay1 n k))) ∧ Below w.heap.size w w' := by
 obtain ⟨m, rfl⟩ := Int.eq_ofNat_of_zero_le h.1
 exact num_nat m k (by have := h.2; omega) hk w
theorem num1_any (n : Int) (h : Fit n) (w : World) : Calls Try.prog 24 #[.int .i64 n, .int .i64 1] w fun e w' => e = .returned (.string (str (lay1 n 1))) ∧ Below w.heap.size w w' := num_any n 1 h (by omega) w
theorem num2_any (n : Int) (h : Fit n) (w : World) : Calls Try.prog 24 #[.int .i64 n, .int .i64 2] w fun e w' => e = .returned (.string (str (lay1 n 2))) ∧ Below w.heap.size w w' := num_any n 2 h (by omega) w
theorem laid8_any (n : Nat) (h : n < 18446744073709551616) (w : World) : Calls Try.prog 25 #[.int .u64 (n : Int), .int .i64 8] w fun e w' => e = .returned (.tuple #[.string (str (laidL n 8)), .bool true]) ∧ Below w.heap.size w w' :=
 (refLaid_any n 8 h (by omega) w).mono fun e w' h' => ⟨h'.1.trans (by rw [decide_eq_true (by omega)]), h'.2⟩
set_option maxRecDepth 100000 in
set_option maxHeartbeats 4000000 in
theorem frame_any (k : Int) (b : Bs) (hk : Fit k) (hb : b.length ≤ 4294967296) (w : World) :
 Calls Try.prog 14 #[.int .i64 k, .string (str b)] w fun e w' => e = .returned (.string (str (frameL k.toNat b))) ∧ Below w.heap.size w w' := by
 have h1 := Lib.hid (fun W => num1_any k hk W)
 have h2 := Lib.hid (fun W => num2_any (b.length : Int) ⟨by omega, by omega⟩ W)
 have hF := Lib.hid (show frameL k.toNat b = lay1 k 1 ++ (lay1 (b.length : Int) 2 ++ b) by simp [frameL, lay1])
 have hs : (str b).size = b.length := rfl
 obtain ⟨L1, e1⟩ : ∃ L, lay1 k 1 = L := ⟨_, rfl⟩
 obtain ⟨L2, e2⟩ : ∃ L, lay1 (b.length : Int) 2 = L := ⟨_, rfl⟩
 have l1 : L1.length = 1 := by rw [← e1, lay1, laidL_length]
 have l2 : L2.length = 2 := by rw [← e2, lay1, laidL_length]
 simp only [e1, e2] at h1 h2 hF
 have hbi : (b.length : Int) ≤ 4294967296 := by omega
 clear e1 e2 hk
 go_enter Try.func14, Try.ntmps14
 go_wp2_with fail
 refine (h1.out _).mono ?_
 rintro e w1 ⟨rfl, hB1⟩
 go_wp2_with fail
 refine (h2.out _).mono ?_
 rintro e w2 ⟨rfl, hB2⟩
 go_wp2
 go_ret
 exact ⟨ret_str (by rw [hF.out]), hB1.trans (hB2.mono hB1.size)⟩
end Go.Proofs.Ytpefdmkfmcjfnaa.Ms
