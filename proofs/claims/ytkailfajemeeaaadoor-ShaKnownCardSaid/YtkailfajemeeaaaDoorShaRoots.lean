/-
  The constants by roots: the document's prime, primes, below, fraction, fractions.
-/
import Derived.Test.YtkailfajemeeaaaDoorRow
import Derived.Test.YtkailfajemeeaaaDoorShaBits
import Derived.Test.YtkailfajemeeaaaDoorShelf
namespace Go.Proofs.YtkailfajemeeaaaDoor.Sha
open Go.RowKit Go.Sort Go.Proofs.YtkailfajemeeaaaDoor.Mem Go.Proofs.YtkailfajemeeaaaDoor.Route
set_option linter.unusedVariables false

theorem rotr_any (x : Wd) (n : Nat) (hn : n ≤ 32) (w : World) : Calls Tryd.prog 26 #[.int .u32 (x.toNat : Int), .int .u64 (n : Int)] w fun e w' => e = .returned (.int .u32 ((rotr x n).toNat : Int)) ∧ w' = w := by
  go_enter Tryd.func26, Tryd.ntmps26
  go_wp2
  rw [wd_shr, wd_shl, wd_or]
  go_ret
  exact ⟨rfl, rfl⟩
theorem range_drop {n d : Nat} (h : d ∈ (List.range n).drop 2) : 2 ≤ d ∧ d < n := by
  obtain ⟨i, hi, rfl⟩ := List.getElem_of_mem h
  simp at hi ⊢
  omega
theorem mem_drop {n d : Nat} (h1 : 2 ≤ d) (h2 : d < n) : d ∈ (List.range n).drop 2 := by
  refine List.mem_iff_getElem.2 ⟨d - 2, by simp; omega, ?_⟩
  simp
  omega
theorem prime_no {n d : Nat} (h1 : 2 ≤ d) (h2 : d < n) (h : n % d = 0) : primeB n = false := by
  unfold primeB
  rw [Bool.and_eq_false_iff]
  right
  rw [List.all_eq_false]
  exact ⟨d, mem_drop h1 h2, by simp [h]⟩
theorem prime_yes {n : Nat} (h : ∀ e, 2 ≤ e → e < n → n % e ≠ 0) : primeB n = decide (1 < n) := by
  unfold primeB
  rw [show ((List.range n).drop 2).all (fun d => n % d != 0) = true from List.all_eq_true.2 fun d hd => by
    obtain ⟨a, b⟩ := range_drop hd
    simpa using h d a b, Bool.and_true]
theorem prime_any (n : Nat) (hn : n < 400) (w : World) : Calls Tryd.prog 32 #[.int .u64 (n : Int)] w fun e w' => e = .returned (.bool (primeB n)) ∧ w' = w := by
  go_enter Tryd.func32, Tryd.ntmps32
  go_wp2
  go_loopw [3] (fun c wr => ∃ d : Nat, c = .int .u64 (d : Int) ∧ 2 ≤ d ∧ (d ≤ n ∨ d = 2) ∧ Hid (∀ e, 2 ≤ e → e < d → n % e ≠ 0) ∧ wr = w)
    (fun c _ => n + 2 - (intOf c).toNat)
  case atStart => exact ⟨2, rfl, by omega, .inr rfl, Lib.hid (fun e h1 h2 => by omega), rfl⟩
  case round =>
    obtain ⟨d, rfl, hd2, hdn, hne, rfl⟩ := hrel
    by_cases hlt : d < n
    · have hdi : (d : Int) < (n : Int) := by omega
      have hd0 : ¬ ((d : Int) = 0) := by omega
      have hmod : (n : Int).tmod (d : Int) = ((n % d : Nat) : Int) := by rw [Int.tmod_eq_emod_of_nonneg (by omega)]; rfl
      by_cases hz : n % d = 0
      · have hp := Lib.hid (prime_no hd2 hlt hz)
        rw [hz] at hmod
        go_wp2
        go_ret
        exact ⟨by simp [hp.out], rfl⟩
      · have hne2 : Hid (∀ e, 2 ≤ e → e < d + 1 → n % e ≠ 0) := Lib.hid (fun e h1 h2 => by
          by_cases he : e = d
          · rw [he]; exact hz
          · exact hne.out e h1 (by omega))
        have hz' : ¬ (((n % d : Nat) : Int) = 0) := by omega
        have hz2 : (((n % d : Nat) : Int) == 0) = false := by simpa using hz'
        go_wp2
        go_roundw
        case rel => exact ⟨d + 1, by go_num, by omega, .inl hlt, hne2, by first | trivial | rfl⟩
        case measure => simp [intOf]; omega
    · have hp := Lib.hid (prime_yes (n := n) (fun e h1 h2 => hne.out e h1 (by omega)))
      have hdi : ¬ ((d : Int) < (n : Int)) := by omega
      go_wp2
      go_ret
      exact ⟨by simp [hp.out]; omega, rfl⟩

def u64V (n : Nat) : Value := .int .u64 (n : Int)
def primesTo (n : Nat) : List Nat := ((List.range n).drop 2).filter primeB
theorem primesTo_succ {n : Nat} (h : 2 ≤ n) : primesTo (n + 1) = primesTo n ++ (if primeB n then [n] else []) := by
  unfold primesTo
  rw [List.range_succ, List.drop_append_of_le_length (by simpa using h), List.filter_append]
  congr 1
  cases h : primeB n <;> simp [List.filter, h]
theorem primesTo_prefix : ∀ (k n : Nat), 2 ≤ n → ∃ r, primesTo (n + k) = primesTo n ++ r
  | 0, n, _ => ⟨[], by simp⟩
  | k + 1, n, h => by
    obtain ⟨r, hr⟩ := primesTo_prefix k n h
    exact ⟨r ++ (if primeB (n + k) then [n + k] else []), by rw [← Nat.add_assoc, primesTo_succ (by omega), hr, List.append_assoc]⟩
theorem primes_end {n many : Nat} (h2 : 2 ≤ n) (hn : n ≤ 400) (hl : (primesTo n).length ≤ many) (he : n = 400 ∨ many ≤ (primesTo n).length) : primesL many = primesTo n := by
  have e : primesL many = (primesTo 400).take many := rfl
  rcases he with rfl | h
  · rw [e, List.take_of_length_le hl]
  · obtain ⟨r, hr⟩ := primesTo_prefix (400 - n) n h2
    rw [show n + (400 - n) = 400 by omega] at hr
    rw [e, hr, List.take_append_of_le_length h, List.take_of_length_le hl]
theorem owns_slice {W : World} {base size k : Nat} {e : TypeId} {v : Value} {xs : List Value} (h : W.ownsRow base e size v k xs) : ∃ x cap, v = .slice x k cap ∧ cap ≤ maxLen ∧ k ≤ cap := by
  obtain ⟨hl, ⟨rfl, rfl⟩ | ⟨g, cap, cur, rfl, hb, hg, hc1, hc2, hs, ht⟩⟩ := h
  · exact ⟨none, 0, rfl, Nat.zero_le _, Nat.le_refl _⟩
  · exact ⟨_, cap, rfl, hc2, hc1⟩
theorem primesTo_two : primesTo 2 = [] := by decide +kernel
theorem info_u64S : (Tryd.prog.info? 49).map (fun i => (i.zero, i.size, i.bytes)) = some (some (.int .u64 0), 1, 8) := by kernel_rfl
set_option maxRecDepth 100000 in
set_option maxHeartbeats 4000000 in
theorem primes_any (many : Nat) (hm : many ≤ 64) (w : World) : Calls Tryd.prog 23 #[.int .i64 (many : Int)] w fun e w' => (∃ u, e = .returned u ∧ w'.ownsRow w.heap.size 49 1 u (primesL many).length ((primesL many).map u64V)) ∧ Below w.heap.size w w' := by
  obtain ⟨i0, hi, hz0, hz1, hz2⟩ := info_parts info_u64S
  go_enter Tryd.func23, Tryd.ntmps23
  go_wp2
  go_loopw [3, 4] (fun u c wr => ∃ n : Nat, c = .int .u64 (n : Int) ∧ 2 ≤ n ∧ n ≤ 400 ∧ (primesTo n).length ≤ many ∧ Hid (wr.ownsRow w.heap.size 49 1 u (primesTo n).length ((primesTo n).map u64V)) ∧ Hid (Below w.heap.size w wr))
    (fun _ c _ => 400 - (intOf c).toNat)
  case atStart => exact ⟨2, rfl, by omega, by omega, by rw [primesTo_two]; exact Nat.zero_le _, Lib.hid (by rw [primesTo_two]; exact World.ownsRow_nil _ _ _ _), Lib.hid (Below.refl _ _)⟩
  case round =>
    obtain ⟨n, rfl, h2, h4, hl, hown, hb⟩ := hrel
    obtain ⟨xo, co, rfl, -, -⟩ := owns_slice hown.out
    obtain ⟨N, hN⟩ : ∃ N, (primesTo n).length = N := ⟨_, rfl⟩
    have hN' := Lib.hid hN
    rw [hN] at hl ⊢
    have hw9 := Lib.hid (show wr.ownsRow w.heap.size 49 1 (.slice xo N co) N ((primesTo n).map u64V) by have h := hown.out; rw [hN'.out] at h; exact h)
    have hs1 := primesTo_succ h2
    have hfin := primes_end (many := many) h2 h4
    rw [hN] at hfin
    by_cases hlt : n < 400
    · have hlti : (n : Int) < 400 := by omega
      by_cases hmm : N < many
      · have hmi : (N : Int) < (many : Int) := by omega
        have hP := prime_any n hlt wr
        obtain ⟨b, hbv⟩ : ∃ b, primeB n = b := ⟨_, rfl⟩
        rw [hbv] at hP hs1
        have hs1' := Lib.hid hs1
        clear hN hs1 hfin hbv
        go_wp2_with fail
        refine hP.mono ?_
        clear hP
        rintro e w' ⟨rfl, rfl⟩
        cases b
        · have he : Hid (primesTo (n + 1) = primesTo n) := Lib.hid (by rw [hs1'.out]; simp)
          go_wp2
          go_roundw
          case rel => exact ⟨n + 1, by go_num, by omega, by omega, by rw [he.out, hN'.out]; exact hl, by rw [he.out, hN'.out]; rw [hN'.out] at hown; exact hown, hb⟩
          case measure => simp [intOf]; omega
        · have he : Hid (primesTo (n + 1) = primesTo n ++ [n]) := Lib.hid (by rw [hs1'.out]; simp)
          have hown' := hown.out
          rw [hN'.out] at hown'
          have hrw := Lib.hid (owns_row hown')
          have hsz := hb.out.size
          go_wp2_with (at_builtin; refine wpList_append_own _ rfl _ _ 57 rfl w.heap.size 49 i0 (.int .u64 0) 1 8 Tryd.underlying57 hi hz0 hz1 hz2 rfl (by decide) _ _ _ rfl (hown'.alloc _) ⟨w'.heap.size, 0, none⟩ 1 1 [.int .u64 (n : Int)] rfl rfl (World.news_of_block (cs := #[.int .u64 (n : Int)]) (t := 49) (fr := (0, 0)) (heap_alloc_new w' _)) (by simp [Value.oneCell']) (by unfold maxLen; omega) (by omega) (by simp; omega) ?_; intro v9 w9 hown9 hgrow9 hnil9)
          have hB9 := Lib.hid ((hb.out.alloc hsz _).grown hgrow9 (by simp; omega) (fun r e => hrw.out r e))
          have hown9' := Lib.hid hown9
          clear hown9 hgrow9 hnil9 hown'
          go_wp2
          go_roundw
          case rel => exact ⟨n + 1, by go_num, by omega, by omega, by rw [he.out, List.length_append, hN'.out]; simp; omega, Lib.hid (by rw [he.out, List.length_append, hN'.out, List.map_append]; exact hown9'.out), hB9⟩
          case measure => simp [intOf]; omega
      · have hmi : ¬ ((N : Int) < (many : Int)) := by omega
        have hf := Lib.hid (hfin hl (.inr (by omega)))
        clear hfin hN hs1
        go_wp2
        go_ret
        exact ⟨⟨_, rfl, by rw [hf.out, hN'.out]; exact hw9.out⟩, hb.out⟩
    · have hlti : ¬ ((n : Int) < 400) := by omega
      have hf := Lib.hid (hfin hl (.inl (by omega)))
      clear hfin hN hs1
      go_wp2
      go_ret
      exact ⟨⟨_, rfl, by rw [hf.out, hN'.out]; exact hw9.out⟩, hb.out⟩
theorem square_below {n p hi lo : Nat} (h : n * n = hi * 18446744073709551616 + lo) (hl : lo < 18446744073709551616) : belowB n p false = (decide (hi < p) || (decide (hi = p) && decide (lo = 0))) := by
  unfold belowB
  rw [if_neg (by decide), Bool.eq_iff_iff]
  simp only [Bool.or_eq_true, Bool.and_eq_true, decide_eq_true_eq]
  rw [h]
  omega
theorem cube_below {n p top la : Nat} (h : n * n * n = top * 18446744073709551616 + la) (hl : la < 18446744073709551616) : belowB n p true = (decide (top < p * 4294967296) || (decide (top = p * 4294967296) && decide (la = 0))) := by
  unfold belowB
  rw [if_pos rfl, Bool.eq_iff_iff]
  simp only [Bool.or_eq_true, Bool.and_eq_true, decide_eq_true_eq]
  rw [h]
  omega
theorem below_any (n p : Nat) (cube : Bool) (hn : n < 137438953472) (hp : p < 400) (w : World) : Calls Tryd.prog 33 #[.int .u64 (n : Int), .int .u64 (p : Int), .bool cube] w fun e w' => e = .returned (.bool (belowB n p cube)) ∧ w' = w := by
  have h1 := Any.bits_Mul64 Tryd.mul64A n n (by omega) (by omega) w
  have h2 := Any.bits_Mul64 Tryd.mul64A (n * n % 18446744073709551616) n (Nat.mod_lt _ (by decide)) (by omega) w
  have hsq : n * n < 137438953472 * 137438953472 := Nat.mul_lt_mul'' hn hn
  obtain ⟨s, hs⟩ : ∃ s, n * n = s := ⟨_, rfl⟩
  have hsb : s < 18889465931478580854784 := by rw [← hs]; omega
  rw [hs] at h1 h2
  obtain ⟨hi, hhi⟩ : ∃ x, s / 18446744073709551616 = x := ⟨_, rfl⟩
  obtain ⟨lo, hlo⟩ : ∃ x, s % 18446744073709551616 = x := ⟨_, rfl⟩
  rw [hlo] at h2
  rw [hhi, hlo] at h1
  have hsd : s = hi * 18446744073709551616 + lo := by omega
  have hlo2 : lo < 18446744073709551616 := by omega
  have hhi2 : hi < 1024 := by omega
  obtain ⟨L, hL⟩ : ∃ L, lo * n = L := ⟨_, rfl⟩
  rw [hL] at h2
  obtain ⟨mo, hmo⟩ : ∃ x, L / 18446744073709551616 = x := ⟨_, rfl⟩
  obtain ⟨la, hla⟩ : ∃ x, L % 18446744073709551616 = x := ⟨_, rfl⟩
  rw [hmo, hla] at h2
  have hLb : L < 18446744073709551616 * 137438953472 := by rw [← hL]; exact Nat.mul_lt_mul'' hlo2 hn
  have hmo2 : mo < 137438953472 := by omega
  obtain ⟨T, hT⟩ : ∃ T, hi * n = T := ⟨_, rfl⟩
  have hTb : T < 1024 * 137438953472 := by rw [← hT]; exact Nat.mul_lt_mul'' hhi2 hn
  have hTi : (hi : Int) * (n : Int) = (T : Int) := by rw [← hT]; exact (Int.natCast_mul hi n).symm
  have hsq2 := Lib.hid (square_below (p := p) (show n * n = hi * 18446744073709551616 + lo by rw [hs]; exact hsd) hlo2)
  have hcb := Lib.hid (cube_below (n := n) (p := p) (top := T + mo) (la := la) (by
    rw [hs, hsd, Nat.add_mul, hL, Nat.mul_right_comm, hT]
    omega) (by omega))
  have hla2 : la < 18446744073709551616 := by omega
  clear hs hsd hsq hhi hlo hmo hla hL hLb hT hsb
  go_enter Tryd.func33, Tryd.ntmps33
  go_wp2_with fail
  refine h1.mono ?_
  clear h1
  rintro e w' ⟨rfl, rfl⟩
  cases cube
  · clear h2
    by_cases c1 : hi < p
    · have c1' : (hi : Int) < (p : Int) := by omega
      go_wp2
      go_ret
      exact ⟨by simp [hsq2.out, c1], rfl⟩
    by_cases c2 : hi = p
    · subst c2
      by_cases c3 : lo = 0
      · subst c3
        go_wp2
        go_ret
        exact ⟨by rw [hsq2.out]; simp, rfl⟩
      · have c3' : ¬ ((lo : Int) = 0) := by omega
        go_wp2
        go_ret
        exact ⟨by rw [hsq2.out]; simp [c3], rfl⟩
    · have c1' : ¬ ((hi : Int) < (p : Int)) := by omega
      have c2' : ¬ ((hi : Int) = (p : Int)) := by omega
      go_wp2
      go_ret
      exact ⟨by rw [hsq2.out]; simp [c1, c2], rfl⟩
  · go_wp2_with fail
    refine h2.mono ?_
    clear h2
    rintro e w' ⟨rfl, rfl⟩
    obtain ⟨top, htop⟩ : ∃ t, T + mo = t := ⟨_, rfl⟩
    obtain ⟨Q, hQ⟩ : ∃ Q, p * 4294967296 = Q := ⟨_, rfl⟩
    rw [htop, hQ] at hcb
    have htb : top < 281474976710656 := by omega
    have hQb : Q < 1717986918400 := by omega
    have hti : (T : Int) + (mo : Int) = (top : Int) := by omega
    have hQi : (p : Int) * 4294967296 = (Q : Int) := by omega
    clear htop hQ
    by_cases c1 : top < Q
    · have c1' : (top : Int) < (Q : Int) := by omega
      have he := Lib.hid (show belowB n p true = true by rw [hcb.out]; simp [c1])
      clear hcb c1
      go_wp2
      go_ret
      exact ⟨by simp [he.out]; try omega, rfl⟩
    by_cases c2 : top = Q
    · have c1' : ¬ ((top : Int) < (Q : Int)) := by omega
      have c2' : (top : Int) = (Q : Int) := by omega
      by_cases c3 : la = 0
      · have he := Lib.hid (show belowB n p true = true by rw [hcb.out]; simp [c2, c3])
        have c3' : (la : Int) = 0 := by omega
        clear hcb c1 c2 c3
        go_wp2
        go_ret
        exact ⟨by simp [he.out]; try omega, rfl⟩
      · have c3' : ¬ ((la : Int) = 0) := by omega
        have he := Lib.hid (show belowB n p true = false by rw [hcb.out]; simp [c1, c3])
        clear hcb c1 c2 c3
        go_wp2
        go_ret
        exact ⟨by simp [he.out]; try omega, rfl⟩
    · have c1' : ¬ ((top : Int) < (Q : Int)) := by omega
      have c2' : ¬ ((top : Int) = (Q : Int)) := by omega
      have he := Lib.hid (show belowB n p true = false by rw [hcb.out]; simp [c1, c2])
      clear hcb c1 c2
      go_wp2
      go_ret
      exact ⟨by simp [he.out]; try omega, rfl⟩

theorem root_step {p b n : Nat} {cube : Bool} : rootF p cube (b + 1) n = rootF p cube b (if belowB (n + 2 ^ b) p cube then n + 2 ^ b else n) := rfl
theorem or_pow {n k : Nat} (h : n % 2 ^ (k + 1) = 0) : n ||| 2 ^ k = n + 2 ^ k := nat_join (k + 1) n (2 ^ k) h (Nat.pow_lt_pow_right (by decide) (by omega))
theorem mod_pow {n k : Nat} (h : n % 2 ^ (k + 1) = 0) : n % 2 ^ k = 0 ∧ (n + 2 ^ k) % 2 ^ k = 0 := by
  have h1 : n % 2 ^ k = 0 := by
    have := Nat.mod_mod_of_dvd n (show 2 ^ k ∣ 2 ^ (k + 1) from ⟨2, by rw [Nat.pow_succ]⟩)
    rw [h] at this
    simpa using this.symm
  exact ⟨h1, by simp [h1]⟩
theorem or_u64 {n k : Nat} (h : n % 2 ^ (k + 1) = 0) (hn : n < 68719476736) (hk : k < 36) : bits .or .u64 (n : Int) ((2 ^ k : Nat) : Int) = ((n + 2 ^ k : Nat) : Int) := by
  have : 2 ^ k < 2 ^ 36 := Nat.pow_lt_pow_right (by decide) hk
  rw [u64_or_nat n (2 ^ k) (by omega) (by omega), or_pow h]
set_option maxRecDepth 100000 in
set_option maxHeartbeats 2000000 in
theorem fraction_any (p : Nat) (cube : Bool) (hp : p < 400) (w : World) : Calls Tryd.prog 24 #[.int .u64 (p : Int), .bool cube] w fun e w' => e = .returned (.int .u32 ((fracW p cube).toNat : Int)) ∧ w' = w := by
  obtain ⟨R, hR⟩ : ∃ R, rootF p cube 36 0 = R := ⟨_, rfl⟩
  go_enter Tryd.func24, Tryd.ntmps24
  go_wp2
  go_loopw [5, 6] (fun x c wr => ∃ b n : Nat, c = .int .i64 ((b : Int) - 1) ∧ b ≤ 36 ∧ x = .int .u64 (n : Int) ∧ Hid (n % 2 ^ b = 0) ∧ n + 2 ^ b ≤ 68719476736 ∧ Hid (rootF p cube b n = R) ∧ wr = w)
    (fun _ c _ => (intOf c + 1).toNat)
  case atStart => exact ⟨36, 0, rfl, Nat.le_refl _, rfl, Lib.hid (by decide), by decide, Lib.hid hR, rfl⟩
  case round =>
    obtain ⟨b, n, rfl, hb, rfl, hmod, hn, hr, rfl⟩ := hrel
    cases b with
    | zero =>
      have hRn : n = R := hr.out
      have hfin := Lib.hid (show ((fracW p cube).toNat : Int) = (n : Int) % 4294967296 by
        unfold fracW
        rw [hR, BitVec.toNat_ofNat, hRn]
        rfl)
      clear hr hmod hR
      subst hRn
      go_wp2
      go_ret
      exact ⟨by simp [hfin.out], rfl⟩
    | succ k =>
      have hpk : 2 ^ (k + 1) = 2 * 2 ^ k := by rw [Nat.pow_succ, Nat.mul_comm]
      have hor := or_u64 hmod.out (by have : 0 < 2 ^ (k + 1) := Nat.pow_pos (by decide); omega) (by omega)
      have hB := below_any (n + 2 ^ k) p cube (by omega) hp wr
      have hPl : 2 ^ k < 2 ^ 36 := Nat.pow_lt_pow_right (by decide) (by omega)
      have hst := Lib.hid (root_step (p := p) (b := k) (n := n) (cube := cube))
      have hm2 := Lib.hid (mod_pow hmod.out)
      have hPi : ((2 ^ k : Nat) : Int) = (2 : Int) ^ k := by simp
      obtain ⟨P, hP⟩ : ∃ P, 2 ^ k = P := ⟨_, rfl⟩
      rw [hP] at hpk hor hB hPl hst hm2 hPi
      rw [hpk] at hn
      obtain ⟨m, hmn⟩ : ∃ m, n + P = m := ⟨_, rfl⟩
      rw [hmn] at hor hB hst hm2
      have hmb : m + P ≤ 68719476736 := by omega
      have hsh : (2 : Int) ^ k % 18446744073709551616 = (P : Int) := by rw [← hPi]; omega
      rw [show ((k + 1 : Nat) : Int) - 1 = (k : Int) by omega]
      have hk35 : (k : Int) ≤ 35 := by omega
      obtain ⟨c, hc⟩ : ∃ c, belowB m p cube = c := ⟨_, rfl⟩
      rw [hc] at hB hst
      have hP' := Lib.hid hP
      have hm3 := hm2.out
      have hr2 := Lib.hid (show rootF p cube k (if c then m else n) = R by rw [← hst.out]; exact hr.out)
      have hm4 := Lib.hid hm3
      clear hc hP hst hr hm3 hmod hR
      go_upto_region 6 with fail
      simp only [← hPi, hor]
      go_wp2_with fail
      refine hB.mono ?_
      clear hB
      rintro e w' ⟨rfl, rfl⟩
      cases c
      · go_wp2
        go_roundw
        case rel => exact ⟨k, n, by go_num, by omega, rfl, Lib.hid (by rw [hP'.out]; exact hm4.out.1), by rw [hP'.out]; omega, hr2, by first | trivial | rfl⟩
        case measure => simp [intOf]
      · go_wp2
        go_roundw
        case rel => exact ⟨k, m, by go_num, by omega, by first | rfl | go_num, Lib.hid (by rw [hP'.out]; exact hm4.out.2), by rw [hP'.out]; omega, hr2, by first | trivial | rfl⟩
        case measure => simp [intOf]
theorem owns_more {W : World} {b c : Nat} {e : TypeId} {size n : Nat} {v : Value} {xs : List Value} (h : W.ownsRow c e size v n xs) (hb : b ≤ c) : W.ownsRow b e size v n xs := by
  obtain ⟨hl, h1 | ⟨g, cap, cur, rfl, hg1, hr⟩⟩ := h
  · exact ⟨hl, .inl h1⟩
  · exact ⟨hl, .inr ⟨g, cap, cur, rfl, Nat.le_trans hb hg1, hr⟩⟩
theorem flat_map1 {α : Type} (f : α → Value) : ∀ l : List α, l.map f = (l.map fun p => [f p]).flatten
  | [] => rfl
  | a :: l => by simp [← flat_map1 f l]
theorem row_one {α : Type} (f : α → Value) {W : World} {base n : Nat} {e : TypeId} {v : Value} {l : List α} (h : W.ownsRow base e 1 v n (l.map f)) (hn : n = l.length) : RowB W.heap.size W v 1 (l.map fun p => [f p]) :=
  RowB.of_owns (by rw [flat_map1] at h; exact h) (by rw [List.length_map, hn]) (fun r hr => by obtain ⟨s, _, rfl⟩ := List.mem_map.1 hr; rfl) (Nat.le_refl _)
theorem one_at {α : Type} {f : α → Value} {B : Nat} {W : World} {x : Option Addr} {n cap : Nat} {l : List α} (h : RowB B W (.slice x n cap) 1 (l.map fun p => [f p])) {k : Nat} {p : α} (hk : l[k]? = some p) : ∃ g o, x = some ⟨g, o, none⟩ ∧ g < B ∧ W.cell? ⟨g, o + k, none⟩ = some (f p) := by
  obtain ⟨g, o, e, hg, hc⟩ := RowB.row h (j := k) (r := [f p]) (by rw [List.getElem?_map, hk]; rfl)
  exact ⟨g, o, e, hg, by simpa using hc 0 _ rfl⟩
theorem info_u32S : (Tryd.prog.info? 39).map (fun i => (i.zero, i.size, i.bytes)) = some (some (.int .u32 0), 1, 4) := by kernel_rfl
theorem primesL_lt {many p : Nat} (h : p ∈ primesL many) : p < 400 := by
  unfold primesL at h
  have h1 := (List.mem_filter.1 (List.mem_of_mem_take h)).1
  exact (range_drop h1).2
theorem primesL_len (many : Nat) : (primesL many).length ≤ many := by unfold primesL; rw [List.length_take]; omega
set_option maxRecDepth 100000 in
set_option maxHeartbeats 4000000 in
theorem fractions_any (many : Nat) (cube : Bool) (hm : many ≤ 64) (w : World) : Calls Tryd.prog 16 #[.int .i64 (many : Int), .bool cube] w fun e w' => (∃ u, e = .returned u ∧ w'.ownsRow w.heap.size 39 1 u (primesL many).length ((primesL many).map fun p => u32V (fracW p cube))) ∧ Below w.heap.size w w' := by
  obtain ⟨i0, hi, hz0, hz1, hz2⟩ := info_parts info_u32S
  have hP := primes_any many hm w
  have hlt := Lib.hid (fun p (h : p ∈ primesL many) => primesL_lt h)
  have hlen : (primesL many).length ≤ 64 := Nat.le_trans (primesL_len many) hm
  generalize primesL many = ps at *
  obtain ⟨N, hN⟩ : ∃ N, ps.length = N := ⟨_, rfl⟩
  rw [hN] at hP hlen
  have hN' := Lib.hid hN
  clear hN
  go_enter Tryd.func16, Tryd.ntmps16
  go_wp2_with fail
  refine hP.mono ?_
  clear hP
  rintro e w1 ⟨⟨u, rfl, hu⟩, hb1⟩
  obtain ⟨xp, cp, rfl, -, -⟩ := owns_slice hu
  have hu' := Lib.hid hu
  have hB1 := Lib.hid hb1
  have hs1 := hb1.size
  clear hu hb1
  go_wp2
  go_loopw [5, 7] (fun u c wr => ∃ i : Nat, c = .int .i64 (i : Int) ∧ i ≤ N ∧ Hid (wr.ownsRow w1.heap.size 39 1 u i ((ps.take i).map fun p => u32V (fracW p cube))) ∧ Hid (Below w1.heap.size w1 wr))
    (fun _ c _ => N - (intOf c).toNat)
  case atStart => exact ⟨0, rfl, Nat.zero_le _, Lib.hid (World.ownsRow_nil _ _ _ _), Lib.hid (Below.refl _ _)⟩
  case round =>
    obtain ⟨i, rfl, hiN, hown, hb⟩ := hrel
    obtain ⟨xo, co, rfl, -, -⟩ := owns_slice hown.out
    by_cases hlti : i < N
    · have hii : (i : Int) < (N : Int) := by omega
      obtain ⟨p, hp⟩ : ∃ p, ps[i]? = some p := ⟨ps[i]'(by rw [hN'.out]; exact hlti), List.getElem?_eq_getElem _⟩
      obtain ⟨g, o, rfl, hg, hc⟩ := one_at (f := u64V) ((row_one u64V hu'.out hN'.out.symm).on hb.out) hp
      have hF := fraction_any p cube (hlt.out p (List.mem_of_getElem? hp)) wr
      have htk : Hid (ps.take (i + 1) = ps.take i ++ [p]) := Lib.hid (by rw [List.take_add_one, hp]; rfl)
      have hown' := hown.out
      have hrw := Lib.hid (owns_row hown')
      have hsz := hb.out.size
      unfold u64V at hc
      clear hp
      go_wp2_with fail
      refine hF.mono ?_
      clear hF
      rintro e w' ⟨rfl, rfl⟩
      go_wp2_with (at_builtin; refine wpList_append_own _ rfl _ _ 41 rfl w1.heap.size 39 i0 (.int .u32 0) 1 4 Tryd.underlying41 hi hz0 hz1 hz2 rfl (by decide) _ _ _ rfl (hown'.alloc _) ⟨w'.heap.size, 0, none⟩ 1 1 [.int .u32 ((fracW p cube).toNat : Int)] rfl rfl (World.news_of_block (cs := #[.int .u32 ((fracW p cube).toNat : Int)]) (t := 39) (fr := (0, 0)) (heap_alloc_new w' _)) (by simp [Value.oneCell']) (by unfold maxLen; omega) (by omega) (by simp; omega) ?_; intro v9 w9 hown9 hgrow9 hnil9)
      have hB9 := Lib.hid ((hb.out.alloc hsz _).grown hgrow9 (by simp; omega) (fun r e => hrw.out r e))
      have hown9' := Lib.hid hown9
      clear hown9 hgrow9 hnil9 hown' hc
      go_wp2
      go_roundw
      case rel => exact ⟨i + 1, by go_num, by omega, Lib.hid (by rw [htk.out, List.map_append]; exact hown9'.out), hB9⟩
      case measure => simp [intOf]; omega
    · obtain rfl : i = N := by omega
      have hii : ¬ ((i : Int) < (i : Int)) := by omega
      have hw := Lib.hid (show wr.ownsRow w.heap.size 39 1 (.slice xo i co) i (ps.map fun p => u32V (fracW p cube)) by
        have h := hown.out
        rw [List.take_of_length_le (by rw [hN'.out]; exact Nat.le_refl _)] at h
        exact owns_more h hs1)
      have hBf := Lib.hid (hB1.out.trans (hb.out.mono hs1))
      go_wp2
      go_ret
      exact ⟨⟨_, rfl, by rw [hN'.out]; exact hw.out⟩, hBf.out⟩
end Go.Proofs.YtkailfajemeeaaaDoor.Sha
