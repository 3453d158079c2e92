import Derived.Test.YtpefdmkfmcjfnaaPkMsMay

namespace Go.Proofs.Ytpefdmkfmcjfnaa.Oct
open Go.RowKit Go.Sort Go.Proofs.Ytpefdmkfmcjfnaa.Mem Go.Proofs.Ytpefdmkfmcjfnaa.Route
set_option linter.unusedVariables false
attribute [local go_sem] str_append str_from str_to
theorem ret_sb {a b : Bs} {c d : Bool} (h : a = b) (h2 : c = d) : Ending.returned (.tuple #[.string (str a), .bool c]) = .returned (.tuple #[.string (str b), .bool d]) := by rw [h, h2]
theorem div_next (n j : Nat) : n / 2 ^ (8 * (j + 1)) = n / 2 ^ (8 * j) / 256 := by rw [Nat.div_div_eq_div_mul, Nat.mul_add, Nat.pow_add]
theorem ofNat_toNat {r : Nat} (h : r < 256) : ((UInt8.ofNat r).toNat : Int) = (r : Int) := by
 rw [UInt8.toNat_ofNat']
 omega
theorem one_text (w : World) (b : UInt8) : (convert 26 9 (.slice (some ⟨w.heap.size, 0, none⟩) 1 1)).run Try.prog (w.alloc (.cells #[.int .u8 (b.toNat : Int)] 5)) = .ok (.string (str [b])) (w.alloc (.cells #[.int .u8 (b.toNat : Int)] 5)) :=
 cells_text (P := Try.prog) _ 26 9 5 Try.underlying26 Try.underlying5 Try.underlying9 w.heap.size 1 1 [b] rfl fun j c hc => by
  match j, hc with
  | 0, hc =>
   cases hc
   exact (AtL.new w 5 [u8V b]).get rfl
set_option maxRecDepth 100000 in
set_option maxHeartbeats 4000000 in
theorem refLaid_any (n k : Nat) (hn : n < 18446744073709551616) (h8 : k ≤ 8) (w : World) :
 Calls Try.prog 25 #[.int .u64 (n : Int), .int .i64 (k : Int)] w fun e w' => e = .returned (.tuple #[.string (str (laidL n k)), .bool (decide (n < 2 ^ (8 * k)))]) ∧ Below w.heap.size w w' := by
 have h8' : (k : Int) ≤ 8 := by omega
 have hfin := Lib.hid (show (n / 2 ^ (8 * k) = 0) ↔ n < 2 ^ (8 * k) by
  rw [Nat.div_eq_zero_iff]
  have := Nat.pow_pos (n := 8 * k) (show 0 < 2 by decide)
  omega)
 go_enter Try.func25, Try.ntmps25
 go_wp2_with fail
 go_loopw [0, 6, 7] (fun v s c wr => ∃ j : Nat, c = .int .i64 (j : Int) ∧ j ≤ k ∧ v = .int .u64 ((n / 2 ^ (8 * j) : Nat) : Int) ∧ s = .string (str (laidL n j)) ∧ Hid (Below w.heap.size w wr))
  (fun _ _ c _ => k - (intOf c).toNat)
 case atStart => exact ⟨0, rfl, Nat.zero_le _, by simp, rfl, Lib.hid (Below.refl _ _)⟩
 case round =>
  obtain ⟨j, rfl, hjk, rfl, rfl, hB⟩ := hrel
  have hV64 : n / 2 ^ (8 * j) < 18446744073709551616 := Nat.lt_of_le_of_lt (Nat.div_le_self _ _) hn
  by_cases hlt : j < k
  · have hlt' : (j : Int) < (k : Int) := by omega
    have hlj : (laidL n j).length < 9 := by rw [laidL_length]; omega
    have hnx := Lib.hid (div_next n j)
    have hla := Lib.hid (show laidL n (j + 1) = UInt8.ofNat (n / 2 ^ (8 * j) % 256) :: laidL n j from rfl)
    obtain ⟨L, hL⟩ : ∃ L, laidL n j = L := ⟨_, rfl⟩
    rw [hL] at hla hlj ⊢
    obtain ⟨V, hV⟩ : ∃ V, n / 2 ^ (8 * j) = V := ⟨_, rfl⟩
    rw [hV] at hnx hla hV64 ⊢
    obtain ⟨r, hr⟩ : ∃ r, V % 256 = r := ⟨_, rfl⟩
    have hr256 : r < 256 := by omega
    rw [hr] at hla
    have hcv := one_text wr (UInt8.ofNat r)
    rw [ofNat_toNat hr256] at hcv
    have e1 : (V : Int) % 256 = (r : Int) := by omega
    have e1' : (V : Int).tmod 256 = (r : Int) := by rw [Int.tmod_eq_emod_of_nonneg (by omega)]; omega
    obtain ⟨q, hq⟩ : ∃ q, V / 256 = q := ⟨_, rfl⟩
    rw [hq] at hnx
    have e2 : (V : Int) / 256 = (q : Int) := by omega
    have e2' : (V : Int).tdiv 256 = (q : Int) := by rw [Int.tdiv_eq_ediv_of_nonneg (by omega)]; omega
    have hri : (r : Int) ≤ 255 := by omega
    have hqi : (q : Int) ≤ 18446744073709551615 := by omega
    have hB' := Lib.hid (hB.out.alloc hB.out.size (.cells #[.int .u8 (r : Int)] 5))
    have hll : (L.length : Int) < 9 := by omega
    clear hL hV hr hq hV64 hr256 hB hlj
    go_wp2_with fail
    go_roundw
    case rel => exact ⟨j + 1, by go_num, by omega, by rw [hnx.out], by rw [hla.out], hB'⟩
    case measure => simp [intOf]; omega
  · obtain rfl : j = k := by omega
    clear hlt
    have hf := hfin.out
    obtain ⟨V, hV⟩ : ∃ V, n / 2 ^ (8 * j) = V := ⟨_, rfl⟩
    rw [hV] at hf hV64 ⊢
    have hr := Lib.hid (show ((V : Int) == 0) = decide (n < 2 ^ (8 * j)) by
     rw [Bool.eq_iff_iff, beq_iff_eq, decide_eq_true_eq, ← hf]
     omega)
    clear hf hfin hV hV64
    go_wp2
    go_ret2
    exact ⟨ret_sb rfl hr.out, hB.out⟩
end Go.Proofs.Ytpefdmkfmcjfnaa.Oct
namespace Go.Proofs.Ytpefdmkfmcjfnaa.Ms
open Go.RowKit Go.Sort Go.Proofs.Ytpefdmkfmcjfnaa.Mem Go.Proofs.Ytpefdmkfmcjfnaa.Route Go.Proofs.Ytpefdmkfmcjfnaa.Oct Go.Proofs.Ytpefdmkfmcjfnaa.Part
set_option linter.unusedVariables false
attribute [local go_sem] str_append
set_option maxRecDepth 100000 in
set_option maxHeartbeats 4000000 in
theorem num_nat (n k : Nat) (hn : n ≤ 4294967296) (hk : k ≤ 8) (w : World) :
 Calls Try.prog 24 #[.int .i64 (n : Int), .int .i64 (k : Int)] w fun e w' => e = .returned (.string (str (laidL n k))) ∧ Below w.heap.size w w' := by
 have hl := Lib.hid (refLaid_any n k (by omega) hk w)
 have h1 : (n : Int) ≤ 4294967296 := by omega
 generalize laidL n k = L at hl ⊢
 clear hn hk
 go_enter Try.func24, Try.ntmps24
 go_wp2_with fail
 refine hl.out.mono ?_
 rintro e w1 ⟨rfl, hB⟩
 go_wp2
 go_ret
 exact ⟨rfl, hB⟩
def Fit (n : Int) : Prop := 0 ≤ n ∧ n ≤ 4294967296
theorem num_any (n : Int) (k : Nat) (h : Fit n) (hk : k ≤ 8) (w : World) :
 Calls Try.prog 24 #[.int .i64 n, .int .i64 (k : Int)] w fun e w' => e = .returned (.string (str (lay1 n k))) ∧ Below w.heap.size w w' := by
 obtain ⟨m, rfl⟩ := Int.eq_ofNat_of_zero_le h.1
 exact num_nat m k (by have := h.2; omega) hk w
theorem num1_any (n : Int) (h : Fit n) (w : World) : Calls Try.prog 24 #[.int .i64 n, .int .i64 1] w fun e w' => e = .returned (.string (str (lay1 n 1))) ∧ Below w.heap.size w w' := num_any n 1 h (by omega) w
end Go.Proofs.Ytpefdmkfmcjfnaa.Ms
namespace Go.Proofs.Ytpefdmkfmcjfnaa.Ms
open Go.RowKit Go.Sort Go.Proofs.Ytpefdmkfmcjfnaa.Mem Go.Proofs.Ytpefdmkfmcjfnaa.Route Go.Proofs.Ytpefdmkfmcjfnaa.Oct Go.Proofs.Ytpefdmkfmcjfnaa.Part Go.Proofs.Ytpefdmkfmcjfnaa.Dr
set_option linter.unusedVariables false
attribute [local go_sem] str_append
structure Fits (m : Ms) : Prop where
 rnd : Fit m.rnd
 bid : m.bid < 18446744073709551616
 nonce : m.nonce < 18446744073709551616
 pr : m.oc.pr < 18446744073709551616
 k1 : m.kind = 1 → Fit m.req ∧ Fit m.rsv ∧ Fit m.rq.fx ∧ Fit m.rq.fy ∧ Fit m.rq.tx ∧ Fit m.rq.ty ∧ Fit m.rq.pe ∧ Fit m.rq.pl ∧ Fit m.rq.de ∧ Fit m.rq.dl ∧ Fit m.rq.ld ∧ Fit m.rq.sv
 k24 : m.kind = 2 ∨ m.kind = 4 → Fit m.car
 k5 : m.kind = 5 → Fit m.oc.st ∧ Fit (m.oc.wn + 1)
 k3 : ¬ m.kind = 1 → ¬ m.kind = 2 → ¬ m.kind = 4 → ¬ m.kind = 5 → m.marks.length ≤ 8 ∧ ∀ q ∈ m.marks, Fit q.1
structure Lays (n : Int) (k : Nat) (L : Bs) : Prop where
 len : L.length = k
 eq : lay1 n k = L
 any : ∀ W, Calls Try.prog 24 #[.int .i64 n, .int .i64 (k : Int)] W fun e w' => e = .returned (.string (str L)) ∧ Below W.heap.size W w'
theorem lays {n : Int} {k : Nat} (h : Fit n) (hk : k ≤ 8) : ∃ L, Lays n k L := ⟨lay1 n k, by rw [lay1, laidL_length], rfl, fun W => num_any n k h hk W⟩
theorem marksL_len {l : List (Int × Bs)} (h : ∀ p ∈ l, p.2.length = 32) : (marksL l).length = 33 * l.length := by
 induction l with
 | nil => rfl
 | cons p t ih =>
  have h1 := h p (List.mem_cons_self ..)
  have h2 := ih (fun q hq => h q (List.mem_cons_of_mem _ hq))
  simp only [marksL, List.map_cons, List.flatten_cons, List.length_append, markL, lay1, laidL_length, h1, List.length_cons] at h2 ⊢
  omega
theorem marksL_snoc (l : List (Int × Bs)) (p : Int × Bs) : marksL (l ++ [p]) = marksL l ++ markL p := by simp [marksL]
theorem ret_si {a b : Bs} {c d : Int} (h : a = b) (h2 : c = d) : Ending.returned (.tuple #[.string (str a), .int .i64 c]) = .returned (.tuple #[.string (str b), .int .i64 d]) := by rw [h, h2]
structure Ms.wide (m : Ms) : Prop where
 bid : m.bid < 18446744073709551616
 nonce : m.nonce < 18446744073709551616
 pr : m.oc.pr < 18446744073709551616
theorem carB_iff (c : Int) : carB c = true ↔ 0 ≤ c ∧ c < 8 := by simp [carB]
theorem upB_at {l : List (Int × Bs)} (h : upB l = true) {i : Nat} (hi : i < l.length) : markB l i = true := by
 rw [upB, List.all_eq_true] at h
 exact h i (List.mem_range.2 hi)
theorem up_ge {l : List (Int × Bs)} (h : upB l = true) : ∀ (i : Nat) (p : Int × Bs), l[i]? = some p → (i : Int) ≤ p.1 ∧ p.1 < 8 := by
 intro i
 induction i with
 | zero =>
  intro p hp
  have h1 := upB_at h (List.getElem?_eq_some_iff.1 hp).1
  rw [markB_zero hp, carB_iff] at h1
  exact ⟨by simpa using h1.1, h1.2⟩
 | succ k ih =>
  intro p hp
  have hk := (List.getElem?_eq_some_iff.1 hp).1
  obtain ⟨r, hr⟩ : ∃ r, l[k]? = some r := ⟨_, List.getElem?_eq_getElem (by omega)⟩
  have h1 := upB_at h hk
  rw [markB_succ hp hr, Bool.and_eq_true, carB_iff, decide_eq_true_eq] at h1
  have h2 := ih r hr
  exact ⟨by omega, h1.1.2⟩
theorem up_len {l : List (Int × Bs)} (h : upB l = true) : l.length ≤ 8 := by
 by_cases h0 : l.length = 0
 · omega
 obtain ⟨r, hr⟩ : ∃ r, l[l.length - 1]? = some r := ⟨_, List.getElem?_eq_getElem (by omega)⟩
 have := up_ge h _ r hr
 omega
theorem up_fit {l : List (Int × Bs)} (h : upB l = true) : ∀ q ∈ l, Fit q.1 := by
 intro q hq
 obtain ⟨i, hi⟩ := List.mem_iff_getElem?.1 hq
 have := up_ge h i q hi
 exact ⟨by omega, by omega⟩
theorem rq_fit {r : Rq} (h : chkR r = 0) : Fit r.fx ∧ Fit r.fy ∧ Fit r.tx ∧ Fit r.ty ∧ Fit r.pe ∧ Fit r.pl ∧ Fit r.de ∧ Fit r.dl ∧ Fit r.ld ∧ Fit r.sv := by
 rw [chkR, Order.chk_iff, Place.mayB_iff, Place.mayB_iff, Window.okB_iff, Window.okB_iff] at h
 unfold Fit
 omega
theorem oc_fit {o : Oc} (h : ocB o = true) : Fit o.st ∧ Fit (o.wn + 1) := by
 unfold ocB at h
 unfold Fit
 split at h
 · rw [decide_eq_true_eq] at h; omega
 · rw [decide_eq_true_eq] at h; omega
theorem may_parts {m : Ms} (h : mayB m = true) : (1 ≤ m.kind ∧ m.kind ≤ 5 ∧ 0 ≤ m.rnd ∧ m.rnd < 16) ∧ m = bareM m ∧ kindB m = true := by
 rw [mayB, Bool.and_eq_true, Bool.and_eq_true, decide_eq_true_eq, sameB_iff] at h
 exact ⟨h.1, h.2.1, h.2.2⟩
theorem may_fits {m : Ms} (h : mayB m = true) (hw : m.wide) : Fits m := by
 obtain ⟨h1, h2, h3⟩ := may_parts h
 clear h2
 unfold kindB at h3
 refine ⟨⟨by omega, by omega⟩, hw.bid, hw.nonce, hw.pr, fun e => ?_, fun e => ?_, fun e => ?_, fun a b c d => ?_⟩
 · rw [if_pos e, decide_eq_true_eq] at h3
   obtain ⟨i1, i2, i3, i4, i5⟩ := h3
   exact ⟨⟨i1, by omega⟩, ⟨i3, by omega⟩, rq_fit i5⟩
 · rcases e with e | e
   · rw [if_neg (by omega), if_pos e, carB_iff] at h3
     exact ⟨h3.1, by omega⟩
   · rw [if_neg (by omega), if_neg (by omega), if_pos e, Bool.and_eq_true, carB_iff] at h3
     exact ⟨h3.1.1, by omega⟩
 · rw [if_neg (by omega), if_neg (by omega), if_neg (by omega), if_pos e] at h3
   exact oc_fit h3
 · rw [if_neg a, if_neg b, if_neg c, if_neg d] at h3
   exact ⟨up_len h3, up_fit h3⟩
theorem body_len {m : Ms} (hm : m.ok) (h : Fits m) : (bodyL m).length ≤ 1000 := by
 unfold bodyL partL
 split
 · simp only [List.length_append, lay1, laidL_length, rqL]; omega
 split
 · simp only [List.length_append, lay1, laidL_length, hm.dig]; omega
 split
 · simp only [List.length_append, lay1, laidL_length]; omega
 split
 · simp only [List.length_append, lay1, laidL_length]; omega
 · rename_i a b c d
   have h1 := (h.k3 a b c d).1
   simp only [List.length_append, lay1, laidL_length, marksL_len hm.marks]; omega
end Go.Proofs.Ytpefdmkfmcjfnaa.Ms
