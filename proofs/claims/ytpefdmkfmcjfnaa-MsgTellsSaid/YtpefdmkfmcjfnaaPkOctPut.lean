import Derived.Test.YtpefdmkfmcjfnaaPkMem
import Derived.Lib.SlBuf

namespace Go.Proofs.Ytpefdmkfmcjfnaa.Oct
open Go.RowKit Go.Sort Go.Proofs.Ytpefdmkfmcjfnaa.Mem Go.Proofs.Ytpefdmkfmcjfnaa.Route
set_option linter.unusedVariables false
theorem info_u8S : (Try.prog.info? 5).map (fun i => (i.zero, i.size, i.bytes)) = some (some (.int .u8 0), 1, 1) := by kernel_rfl
def intOf : Value → Int
 | .int _ n => n
 | _ => 0
theorem isWidth_any (k : Int) (w : World) : Calls Try.prog 91 #[.int .i64 k] w fun e w' => e = .returned (.bool (isW k)) ∧ w' = w := by
 have h := Lib.hid (show isW k = (decide (1 ≤ k) && decide (k ≤ 8)) by simp [isW])
 go_enter Try.func91, Try.ntmps91
 by_cases h1 : 1 ≤ k
 · have t1 : decide (1 ≤ k) = true := decide_eq_true h1
   go_wp2
   go_ret
   exact ⟨ret_bool (by rw [h.out, t1]; rfl), rfl⟩
 · have t1 : decide (1 ≤ k) = false := decide_eq_false h1
   go_wp2
   go_ret
   exact ⟨ret_bool (by rw [h.out, t1]; rfl), rfl⟩
set_option maxRecDepth 100000 in
set_option maxHeartbeats 4000000 in
theorem laid_any (n k : Nat) (hn : n < 18446744073709551616) (h1 : 1 ≤ k) (h8 : k ≤ 8) (w : World) :
 Calls Try.prog 93 #[.int .u64 (n : Int), .int .i64 (k : Int)] w fun e w' => e = .returned (.slice (some ⟨w.heap.size, 0, none⟩) k k) ∧ (∀ j b, (laidL n k)[j]? = some b → w'.cell? ⟨w.heap.size, j, none⟩ = some (u8V b)) ∧ Below w.heap.size w w' := by
 have hA0 := AtL.new w 161 (laidC n k 0)
 rw [laidC_none] at hA0
 have hB0 : Below w.heap.size w (w.alloc (.cells #[.int .u8 0, .int .u8 0, .int .u8 0, .int .u8 0, .int .u8 0, .int .u8 0, .int .u8 0, .int .u8 0] 161)) := (Below.refl _ _).alloc (Nat.le_refl _) _
 have h8' : (k : Int) ≤ 8 := by omega
 go_enter Try.func93, Try.ntmps93
 go_wp2_with fail
 go_loopw [8] (fun c wr => ∃ j : Nat, c = .int .i64 (j : Int) ∧ j ≤ k ∧ Hid (AtL wr w.heap.size 161 (laidC n k j)) ∧ Hid (Below w.heap.size w wr))
  (fun c _ => k - (intOf c).toNat)
 case atStart => exact ⟨0, rfl, Nat.zero_le _, Lib.hid (by rw [laidC_none]; exact hA0), Lib.hid hB0⟩
 case round =>
  clear hA0 hB0
  obtain ⟨j, rfl, hjk, hA, hB⟩ := hrel
  by_cases hlt : j < k
  · obtain ⟨m, hm⟩ : ∃ m, k - 1 - j = m := ⟨_, rfl⟩
    obtain ⟨q, hq⟩ : ∃ q, 8 * j = q := ⟨_, rfl⟩
    have e1 : (k : Int) - 1 - (j : Int) = (m : Int) := by omega
    have e2 : (8 : Int) * (j : Int) = (q : Int) := by omega
    have hm8 : m < 8 := by omega
    have hq64 : q < 64 := by omega
    have hlt' : (j : Int) < (k : Int) := by omega
    have hset := laidC_set (n := n) hlt h8
    rw [hm, hq] at hset
    have hl8 : (laidC n k j).length = 8 := by simp [laidC]
    obtain ⟨x, hx⟩ : ∃ x, (laidC n k j)[m]? = some x := ⟨_, List.getElem?_eq_getElem (by omega)⟩
    have hc := hA.out.get hx
    have hf := hA.out.free m
    have hA' := Lib.hid (show AtL (wr.setCell ⟨w.heap.size, m, none⟩ (.int .u8 ((n / 2 ^ q % 256 : Nat) : Int))) w.heap.size 161 (laidC n k (j + 1)) by rw [← hset]; exact hA.out.put m _)
    have hB' := Lib.hid (below_set hB.out (Nat.le_refl _) m (.int .u8 ((n / 2 ^ q % 256 : Nat) : Int)))
    have hcast : ((n / 2 ^ q % 256 : Nat) : Int) = (n : Int) / 2 ^ q % 256 := by simp
    rw [hcast] at hA' hB'
    clear hset hx hl8 hA hB hm hq hcast
    go_wp2_with fail
    go_roundw
    case rel => exact ⟨j + 1, by go_num, by omega, hA', hB'⟩
    case measure => simp [intOf]; omega
  · obtain rfl : j = k := by omega
    have hget := fun i b (hb : (laidL n j)[i]? = some b) => hA.out.get (laidC_get (by have := (List.getElem?_eq_some_iff.1 hb).1; rwa [laidL_length] at this) h8 hb)
    have hgetH := Lib.hid hget
    clear hget hA hlt hjk
    go_wp2
    go_ret
    exact ⟨rfl, hgetH.out, hB.out⟩
set_option maxRecDepth 100000 in
set_option maxHeartbeats 4000000 in
theorem join_any (s m : Bs) (k h cap : Nat) (hk : m.length = k) (hk1 : 1 ≤ k) (hs : s.length + k ≤ 281474976710656) (w : World) (hh : h < w.heap.size) (hc : ∀ j b, m[j]? = some b → w.cell? ⟨h, j, none⟩ = some (u8V b)) :
 Calls Try.prog 92 #[.string (str s), .slice (some ⟨h, 0, none⟩) k cap] w fun e w' => e = .returned (.string (str (s ++ m))) ∧ Below w.heap.size w w' := by
 obtain ⟨i0, hi, hz0, hz1, hz2⟩ := info_parts info_u8S
 have hsz : (Try.prog.info? 5).map (·.size) = some 1 := by rw [hi, ← hz1]; rfl
 obtain ⟨N, hN⟩ : ∃ N, s.length + k = N := ⟨_, rfl⟩
 have hmk := make_zeros (P := Try.prog) w 26 5 i0 Try.underlying26 hi hz0 hz1 hz2 N (by omega)
 have hA1 := AtL.new w 5 (List.replicate N (Value.int .u8 0))
 have hB1 : Below w.heap.size w (w.alloc (.cells (List.replicate N (Value.int .u8 0)).toArray 5)) := (Below.refl _ _).alloc (Nat.le_refl _) _
 generalize w.alloc (.cells (List.replicate N (Value.int .u8 0)).toArray 5) = w1 at hmk hA1 hB1
 have hc1 := copy_text (P := Try.prog) w1 26 9 3 5 w.heap.size N N s 5 Try.underlying26 hsz hA1 (by omega)
 have hA2 := hA1.row (s.map u8V ++ List.replicate (N - s.length) (Value.int .u8 0))
 have hB2 := below_row hB1 (Nat.le_refl _) (s.map u8V ++ List.replicate (N - s.length) (Value.int .u8 0)).toArray
 generalize w1.setRow w.heap.size (s.map u8V ++ List.replicate (N - s.length) (Value.int .u8 0)).toArray = w2 at hc1 hA2 hB2
 have hc2 := copy_behind (P := Try.prog) w2 26 26 3 5 w.heap.size N s.length (N - s.length) h k cap s m 5 Try.underlying26 hsz hA2 rfl hk (by omega) (fun j b hb => (hB2.cell (p := ⟨h, j, none⟩) hh).trans (hc j b hb))
 have hA3 := hA2.row ((s ++ m).map u8V)
 have hB3 := below_row hB2 (Nat.le_refl _) ((s ++ m).map u8V).toArray
 generalize w2.setRow w.heap.size ((s ++ m).map u8V).toArray = w3 at hc2 hA3 hB3
 have hcv := cells_text (P := Try.prog) w3 26 9 5 Try.underlying26 Try.underlying5 Try.underlying9 w.heap.size N N (s ++ m) (by rw [List.length_append]; omega) hA3.bytes
 have e1 : (s.length : Int) + (k : Int) = (N : Int) := by omega
 have hNb : (N : Int) ≤ 281474976710656 := by omega
 have hsN : (s.length : Int) ≤ (N : Int) := by omega
 have e2 : N - s.length = k := by omega
 have hne : ¬ N = s.length := by omega
 rw [e2] at hc2
 have hB3' := Lib.hid hB3
 clear hA1 hA2 hA3 hB1 hB2 hB3 hN hs hc hi hz0 hz1 hz2 hsz hk
 go_enter Try.func92, Try.ntmps92
 go_wp2_with (at_builtin; first | (refine Lib.wpList_copy_run _ rfl _ _ _ _ rfl _ _ rfl rfl hc1 ?_) | (refine Lib.wpList_copy_run _ rfl _ _ _ _ rfl _ _ rfl rfl hc2 ?_))
 go_ret
 exact ⟨rfl, hB3'.out⟩
attribute [local go_sem] str_append
theorem ret_si {a b : Bs} {c d : Int} (h : a = b) (h2 : c = d) : Ending.returned (.tuple #[.string (str a), .int .i64 c]) = .returned (.tuple #[.string (str b), .int .i64 d]) := by rw [h, h2]
set_option maxRecDepth 100000 in
set_option maxHeartbeats 4000000 in
theorem Put_any (s : Bs) (n : Nat) (k : Int) (hn : n < 18446744073709551616) (hs : s.length ≤ 281474976710000) (w : World) :
 Calls Try.prog 90 #[.string (str s), .int .u64 (n : Int), .int .i64 k] w fun e w' => e = .returned (.tuple #[.string (str (putB s n k)), .int .i64 (putE n k)]) ∧ Below w.heap.size w w' := by
 have hwd := isWidth_any k w
 cases hw : isW k
 · rw [hw] at hwd
   have hE := Lib.hid (show putE n k = 2 by simp [putE, hw])
   have hB := Lib.hid (show putB s n k = [] by simp [putB, hw])
   clear hw
   go_enter Try.func90, Try.ntmps90
   go_wp2_with fail
   refine hwd.mono ?_
   rintro e w' ⟨rfl, rfl⟩
   go_wp2
   go_ret2
   exact ⟨ret_si hB.out.symm hE.out.symm, Below.refl _ _⟩
 · rw [hw] at hwd
   obtain ⟨K, rfl⟩ : ∃ K : Nat, k = K := ⟨k.toNat, by simp [isW] at hw; omega⟩
   have hK : 1 ≤ K ∧ K ≤ 8 := by simp [isW] at hw; omega
   obtain ⟨q, hq⟩ : ∃ q, 8 * K = q := ⟨_, rfl⟩
   have e2 : (8 : Int) * (K : Int) = (q : Int) := by omega
   have hq64 : q ≤ 64 := by omega
   have hmin : min q 64 = q := by omega
   by_cases hlt : n < 2 ^ q
   · have hz : (n : Int) / 2 ^ q = 0 := by
      have : ((n / 2 ^ q : Nat) : Int) = 0 := by rw [Nat.div_eq_of_lt hlt]; rfl
      simpa using this
     have hE := Lib.hid (show putE n K = 0 by simp [putE, hw, hq, hlt])
     have hB := Lib.hid (show putB s n K = s ++ laidL n K by simp [putB, hw, hq, hlt])
     have hla := fun W => laid_any n K hn hK.1 hK.2 W
     have hk1 := hK.1
     have hll := laidL_length n K
     clear hw hlt hq hK
     go_enter Try.func90, Try.ntmps90
     go_wp2_with fail
     refine hwd.mono ?_
     rintro e w' ⟨rfl, rfl⟩
     go_wp2_with fail
     refine (hla _).mono ?_
     rintro e w1 ⟨rfl, hc, hb1⟩
     have hlen : 0 < (laidL n K).length := by omega
     have hh : w'.heap.size < w1.heap.size := by
      have := hc 0 _ (List.getElem?_eq_getElem hlen)
      rcases Nat.lt_or_ge w'.heap.size w1.heap.size with h | h
      · exact h
      · simp [World.cell?, Array.getElem?_eq_none h] at this
     have hj := join_any s (laidL n K) K w'.heap.size K hll hk1 (by omega) w1 hh hc
     clear hc hlen
     go_wp2_with fail
     refine hj.mono ?_
     rintro e w2 ⟨rfl, hb2⟩
     go_wp2
     go_ret2
     exact ⟨ret_si hB.out.symm hE.out.symm, hb1.trans (hb2.mono hb1.size)⟩
   · have hz : ¬ (n : Int) / 2 ^ q = 0 := by
      intro h0
      have h1 : ((n / 2 ^ q : Nat) : Int) = 0 := by simpa using h0
      have h2 : n / 2 ^ q = 0 := by omega
      rw [Nat.div_eq_zero_iff] at h2
      rcases h2 with h2 | h2
      · have := Nat.pow_pos (n := q) (show 0 < 2 by decide); omega
      · exact hlt h2
     have hE := Lib.hid (show putE n K = 3 by simp [putE, hw, hq, hlt])
     have hB := Lib.hid (show putB s n K = [] by simp [putB, hw, hq, hlt])
     clear hw hlt hq hK
     go_enter Try.func90, Try.ntmps90
     go_wp2_with fail
     refine hwd.mono ?_
     rintro e w' ⟨rfl, rfl⟩
     go_wp2
     go_ret2
     exact ⟨ret_si hB.out.symm hE.out.symm, Below.refl _ _⟩
def numAt (s : Bs) (o j : Nat) : Nat := numL ((s.drop o).take j)
theorem numAt_next {s : Bs} {o j : Nat} (h : o + j < s.length) : numAt s o (j + 1) = numAt s o j * 256 + (s[o + j]'h).toNat := by
 unfold numAt
 rw [List.take_add_one, List.getElem?_drop, List.getElem?_eq_getElem h, Option.toList_some, num_snoc]
theorem numAt_lt (s : Bs) (o j : Nat) : numAt s o j < 2 ^ (8 * j) := by
 refine Nat.lt_of_lt_of_le (num_lt _) (Nat.pow_le_pow_right (by decide) ?_)
 rw [List.length_take]
 omega
theorem numAt_lt7 {s : Bs} {o j : Nat} (h : j < 8) : numAt s o j < 72057594037927936 :=
 Nat.lt_of_lt_of_le (numAt_lt s o j) (Nat.le_trans (Nat.pow_le_pow_right (by decide) (show 8 * j ≤ 56 by omega)) (by decide))
theorem index_text (w : World) (l : Bs) (i : Nat) (h : i < l.length) : (Instr.index 9 (.string (str l)) (.int .i64 (i : Int))).run Try.prog w = .ok (.int .u8 ((l[i]'h).toNat : Int)) w := by
 rw [run_index_string w 9 (str l) .i64 (i : Int) Try.underlying9, dif_pos ⟨by omega, by rw [str_size]; omega⟩]
 congr 3
set_option maxRecDepth 100000 in
set_option maxHeartbeats 4000000 in
theorem Get_any (s : Bs) (o k : Int) (hs : s.length ≤ 9223372036854775807) (w : World) :
 Calls Try.prog 100 #[.string (str s), .int .i64 o, .int .i64 k] w fun e w' => e = .returned (.tuple #[.int .u64 (getN s o k : Int), .bool (getOk s o k)]) ∧ w' = w := by
 have hwd := isWidth_any k w
 have hiw : isW k = true → 1 ≤ k ∧ k ≤ 8 := fun h => by simpa [isW] using h
 have hex : getOk s o k = true ↔ 1 ≤ k ∧ k ≤ 8 ∧ 0 ≤ o ∧ o ≤ (s.length : Int) - k := by simp [getOk]
 cases hw : isW k
 · have hO : getOk s o k = false := by
    rw [← Bool.not_eq_true, hex]
    simp [isW] at hw
    omega
   have hN : getN s o k = 0 := by simp [getN, hO]
   rw [hO, hN]
   rw [hw] at hwd
   clear hex hiw hO hN hw
   go_enter Try.func100, Try.ntmps100
   go_wp2_with fail
   refine hwd.mono ?_
   rintro e w' ⟨rfl, rfl⟩
   go_wp2
   go_ret2
   exact ⟨rfl, rfl⟩
 rw [hw] at hwd
 obtain ⟨hk1, hk8⟩ := hiw hw
 have hsz : (s.length : Int) ≤ 9223372036854775807 := by omega
 have hs0 : (0 : Int) ≤ (s.length : Int) := by omega
 by_cases h0 : o < 0
 · have hO : getOk s o k = false := by
    rw [← Bool.not_eq_true, hex]
    omega
   have hN : getN s o k = 0 := by simp [getN, hO]
   rw [hO, hN]
   clear hex hiw hO hN hw
   go_enter Try.func100, Try.ntmps100
   go_wp2_with fail
   refine hwd.mono ?_
   rintro e w' ⟨rfl, rfl⟩
   go_wp2
   go_ret2
   exact ⟨rfl, rfl⟩
 by_cases h1 : (s.length : Int) - k < o
 · have hO : getOk s o k = false := by
    rw [← Bool.not_eq_true, hex]
    omega
   have hN : getN s o k = 0 := by simp [getN, hO]
   rw [hO, hN]
   clear hex hiw hO hN hw
   go_enter Try.func100, Try.ntmps100
   go_wp2_with fail
   refine hwd.mono ?_
   rintro e w' ⟨rfl, rfl⟩
   go_wp2
   go_ret2
   exact ⟨rfl, rfl⟩
 have hO : getOk s o k = true := hex.2 (by omega)
 obtain ⟨K, rfl⟩ : ∃ K : Nat, k = K := ⟨k.toNat, by omega⟩
 obtain ⟨O, rfl⟩ : ∃ O : Nat, o = O := ⟨o.toNat, by omega⟩
 have hN : getN s O K = numAt s O K := by simp [getN, hO, numAt]
 rw [hO, hN]
 have hfit : O + K ≤ s.length := by omega
 have hK8 : K ≤ 8 := by omega
 clear hex hiw hO hN hw
 go_enter Try.func100, Try.ntmps100
 go_wp2_with fail
 refine hwd.mono ?_
 rintro e w' ⟨rfl, rfl⟩
 go_wp2_with fail
 go_loopw [8, 26] (fun n c wr => ∃ j : Nat, c = .int .i64 (j : Int) ∧ j ≤ K ∧ n = .int .u64 (numAt s O j : Int) ∧ wr = w')
  (fun _ c _ => K - (intOf c).toNat)
 case atStart => exact ⟨0, rfl, Nat.zero_le _, rfl, rfl⟩
 case round =>
  obtain ⟨j, rfl, hjk, rfl, rfl⟩ := hrel
  by_cases hlt : j < K
  · have hij : O + j < s.length := by omega
    have hix := fun W => index_text W s (O + j) hij
    have hlt' : (j : Int) < (K : Int) := by omega
    have hnx := numAt_next (s := s) (o := O) (j := j) hij
    have h7 := numAt_lt7 (s := s) (o := O) (j := j) (by omega)
    obtain ⟨V, hV⟩ : ∃ V, numAt s O j = V := ⟨_, rfl⟩
    obtain ⟨b, hb⟩ : ∃ b, s[O + j]'hij = b := ⟨_, rfl⟩
    rw [hV] at hnx h7
    rw [hb] at hnx hix
    have hor := or_byte b h7
    have hVi : (V : Int) < 72057594037927936 := by omega
    have hcast : ((O + j : Nat) : Int) = (O : Int) + (j : Int) := by omega
    rw [hcast] at hix
    have hOj : (O : Int) + (j : Int) ≤ 9223372036854775807 := by omega
    have hx256 := b.toNat_lt
    obtain ⟨x, hx⟩ : ∃ x, b.toNat = x := ⟨_, rfl⟩
    rw [hx] at hnx hor hix hx256
    have hx1 : (x : Int) < 256 := by omega
    have hnx' := Lib.hid hnx
    rw [hV]
    clear hx hx256
    clear hcast hV hb hnx hwd hsz hs0 hk1 hk8 h0 h1 h7
    go_wp2_with fail
    go_roundw
    case rel => exact ⟨j + 1, by go_num, by omega, by rw [hnx'.out, Int.natCast_add, Int.natCast_mul]; rfl, trivial⟩
    case measure => simp [intOf]; omega
  · obtain rfl : j = K := by omega
    clear hlt
    go_wp2
    go_ret2
    exact ⟨rfl, rfl⟩
attribute [local go_sem] str_append str_from str_to
structure Chg (B r : Nat) (w w' : World) : Prop where
 os : w'.os = w.os
 tape : w'.tape = w.tape
 output : w'.output = w.output
 size : w.heap.size ≤ w'.heap.size
 block : ∀ k, k < B → k ≠ r → w'.heap[k]? = w.heap[k]?
theorem Chg.of_below {B r : Nat} {w v : World} (h : Below B w v) : Chg B r w v := ⟨h.os, h.tape, h.output, h.size, fun k hk _ => h.block k hk⟩
theorem Chg.refl (B r : Nat) (w : World) : Chg B r w w := .of_below (.refl _ _)
theorem Chg.trans {B r : Nat} {a b c : World} (h : Chg B r a b) (k : Chg B r b c) : Chg B r a c :=
 ⟨k.os.trans h.os, k.tape.trans h.tape, k.output.trans h.output, Nat.le_trans h.size k.size, fun j hj hr => (k.block j hj hr).trans (h.block j hj hr)⟩
theorem Chg.alloc {B r : Nat} {w v : World} (h : Chg B r w v) (hB : B ≤ v.heap.size) (o : Obj) : Chg B r w (v.alloc o) := h.trans (.of_below ((Below.refl _ _).alloc hB o))
theorem Chg.set {B r : Nat} {w v : World} (h : Chg B r w v) {g : Nat} (hg : B ≤ g ∨ g = r) (i : Nat) (x : Value) : Chg B r w (v.setCell ⟨g, i, none⟩ x) :=
 h.trans ⟨rfl, rfl, rfl, by simp [World.setCell], fun k hk hr => Below.heap_setCell v _ x k (by rcases hg with hg | hg <;> simp <;> omega)⟩
theorem Chg.row {B r : Nat} {w v : World} (h : Chg B r w v) {g : Nat} (hg : B ≤ g ∨ g = r) (cs : Array Value) : Chg B r w (v.setRow g cs) :=
 h.trans ⟨rfl, rfl, rfl, by rw [setRow_size]; exact Nat.le_refl _, fun k hk hr => setRow_other v g k cs (by rcases hg with hg | hg <;> omega)⟩
theorem Chg.grown {r : Nat} {w v : World} (h : Chg w.heap.size r w v) : w.grownBy v (some r) := ⟨h.os, h.tape, h.output, h.size, fun k hk hr => h.block k hk (by simpa using hr)⟩
def rdC : St → Array Value
 | some l => #[.string (str l), .bool false]
 | none => #[.string (str []), .bool true]
def RdAt (w : World) (g : Nat) (st : St) : Prop := At w g 125 (rdC st)
theorem RdAt.keep {B : Nat} {w v : World} {g : Nat} {st : St} (h : RdAt w g st) (hb : Below B w v) (hg : g < B) : RdAt v g st := At.keep h hb hg
theorem RdAt.inside {w : World} {g : Nat} {st : St} (h : RdAt w g st) : g < w.heap.size := At.inside h
theorem RdAt.on {w v : World} {g : Nat} {st : St} (h : RdAt w g st) (hb : Below w.heap.size w v) : RdAt v g st := h.keep hb h.inside
theorem RdAt.same {w v : World} {g : Nat} {st : St} (h : RdAt w g st) (hb : v.heap[g]? = w.heap[g]?) : RdAt v g st := hb.trans h
theorem Read_any (l : Bs) (w : World) : Calls Try.prog 45 #[.string (str l)] w fun e w' => e = .returned (.pointer (some ⟨w.heap.size, 0, none⟩)) ∧ RdAt w' w.heap.size (some l) ∧ Below w.heap.size w w' := by
 have hA : RdAt (w.alloc (.cells #[.string (str l), .bool false] 125)) w.heap.size (some l) := At.new w _ _
 have hB : Below w.heap.size w (w.alloc (.cells #[.string (str l), .bool false] 125)) := (Below.refl _ _).alloc (Nat.le_refl _) _
 go_enter Try.func45, Try.ntmps45
 go_wp2
 go_ret
 exact ⟨rfl, hA, hB⟩
theorem End_any (r : Nat) (st : St) (w : World) (h : RdAt w r st) : Calls Try.prog 46 #[.pointer (some ⟨r, 0, none⟩)] w fun e w' => e = .returned (.int .i64 (endS st)) ∧ w' = w := by
 rcases st with _ | (_ | ⟨b, l⟩)
 all_goals
  have c0 := At.cell h 0
  have c1 := At.cell h 1
  simp [rdC] at c0 c1
  go_enter Try.func46, Try.ntmps46
  go_wp2
  go_ret
  exact ⟨rfl, rfl⟩
theorem num1_any (l : Bs) (k : Int) (g1 g2 : Nat) (x : Int) (w : World) (hl : l.length ≤ 9223372036854775807) (h1 : At w g1 3 #[.int .i64 k]) (h2 : At w g2 24 #[.int .u64 x]) (hne : g1 ≠ g2) :
 Calls Try.prog 99 #[.string (str l), .pointer (some ⟨g1, 0, none⟩), .pointer (some ⟨g2, 0, none⟩)] w fun e w' => e = .returned (.tuple #[.int .i64 k, .bool (getOk l 0 k)]) ∧ w' = w.setCell ⟨g2, 0, none⟩ (.int .u64 (getN l 0 k : Int)) := by
 have hg := Get_any l 0 k hl w
 have c1 := h1.cell 0
 have c2 := h2.cell 0
 have f2 := h2.free 0
 simp at c1 c2
 have c1' : (w.setCell ⟨g2, 0, none⟩ (.int .u64 (getN l 0 k : Int))).cell? ⟨g1, 0, none⟩ = some (.int .i64 k) := (At.far h1 hne 0 _).cell 0
 clear h1 h2
 go_enter Try.func99, Try.ntmps99
 go_wp2_with fail
 refine hg.mono ?_
 rintro e w' ⟨rfl, rfl⟩
 go_wp2
 go_ret2
 exact ⟨rfl, rfl⟩
attribute [local go_sem] str_append str_from str_to
theorem step_broken (r : Nat) (F : Value) (w : World) (h : RdAt w r none) : Calls Try.prog 98 #[.pointer (some ⟨r, 0, none⟩), F] w fun e w' => e = .returned (.tuple #[]) ∧ w' = w := by
 have c1 := At.cell h 1
 simp [rdC] at c1
 go_enter Try.func98, Try.ntmps98
 go_wp2
 refine bodyPost_ret (results_none rfl _ _ _) rfl ?_
 exact ⟨rfl, rfl⟩
set_option maxRecDepth 100000 in
set_option maxHeartbeats 4000000 in
theorem step_num (l : Bs) (k : Int) (r g1 g2 : Nat) (x : Int) (w : World) (hl : l.length ≤ 9223372036854775000) (h : RdAt w r (some l)) (h1 : At w g1 3 #[.int .i64 k]) (h2 : At w g2 24 #[.int .u64 x]) (n1 : g1 ≠ g2) (n2 : r ≠ g2) (B : Nat) (hB : B ≤ g2) :
 Calls Try.prog 98 #[.pointer (some ⟨r, 0, none⟩), .func (.func 99) #[] #[.pointer (some ⟨g1, 0, none⟩), .pointer (some ⟨g2, 0, none⟩)]] w fun e w' => e = .returned (.tuple #[]) ∧ RdAt w' r (numS (some l) k).2 ∧ At w' g2 24 #[.int .u64 (getN l 0 k : Int)] ∧ Chg B r w w' := by
 have c0 := At.cell h 0
 have c1 := At.cell h 1
 simp [rdC] at c0 c1
 have hn := num1_any l k g1 g2 x w (by omega) h1 h2 n1
 have hR := At.far h n2 0 (.int .u64 (getN l 0 k : Int))
 have hN := h2.put 0 (.int .u64 (getN l 0 k : Int))
 have hC := (Chg.refl B r w).set (.inl hB) 0 (.int .u64 (getN l 0 k : Int))
 clear h h1 h2
 generalize w.setCell ⟨g2, 0, none⟩ (.int .u64 (getN l 0 k : Int)) = w1 at hn hR hN hC
 have d0 := hR.cell 0
 have d1 := hR.cell 1
 have f0 := hR.free 0
 have f1 := hR.free 1
 simp [rdC] at d0 d1
 cases hok : getOk l 0 k
 · rw [hok] at hn
   have hS : (numS (some l) k).2 = none := by simp [numS, hok]
   have hR' : RdAt ((w1.setCell ⟨r, 0, none⟩ (.string (str []))).setCell ⟨r, 1, none⟩ (.bool true)) r none := by
    have := (hR.put 0 (.string (str []))).put 1 (.bool true)
    simpa [RdAt, rdC] using this
   have hN' := (hN.far (Ne.symm n2) 0 (.string (str []))).far (Ne.symm n2) 1 (.bool true)
   have hC' := (hC.set (.inr rfl) 0 (.string (str []))).set (.inr rfl) 1 (.bool true)
   rw [hS]
   clear hR hN hC hS hok
   go_enter Try.func98, Try.ntmps98
   go_wp2_with fail
   refine hn.mono ?_
   rintro e w' ⟨rfl, rfl⟩
   go_wp2
   refine bodyPost_ret (results_none rfl _ _ _) rfl ?_
   exact ⟨rfl, hR', hN', hC'⟩
 · rw [hok] at hn
   have hk : 0 ≤ k ∧ k ≤ (l.length : Int) := by simp [getOk] at hok; omega
   obtain ⟨K, rfl⟩ : ∃ K : Nat, k = K := ⟨k.toNat, by omega⟩
   have hS : (numS (some l) K).2 = some (l.drop K) := by simp [numS, hok]
   have hR' : RdAt (w1.setCell ⟨r, 0, none⟩ (.string (str (l.drop K)))) r (some (l.drop K)) := by
    have := hR.put 0 (.string (str (l.drop K)))
    simpa [RdAt, rdC] using this
   have hN' := hN.far (Ne.symm n2) 0 (.string (str (l.drop K)))
   have hC' := hC.set (.inr rfl) 0 (.string (str (l.drop K)))
   have hKl : (K : Int) ≤ (l.length : Int) := hk.2
   rw [hS]
   clear hR hN hC hS hok hk
   go_enter Try.func98, Try.ntmps98
   go_wp2_with fail
   refine hn.mono ?_
   rintro e w' ⟨rfl, rfl⟩
   go_wp2
   refine bodyPost_end (results_none rfl _ _ _) rfl ?_
   exact ⟨rfl, hR', hN', hC'⟩
set_option maxRecDepth 100000 in
set_option maxHeartbeats 4000000 in
theorem Num_any (k : Int) (r : Nat) (st : St) (w : World) (hl : ∀ l, st = some l → l.length ≤ 9223372036854775000) (h : RdAt w r st) :
 Calls Try.prog 97 #[.pointer (some ⟨r, 0, none⟩), .int .i64 k] w fun e w' => e = .returned (.int .u64 ((numS st k).1 : Int)) ∧ RdAt w' r (numS st k).2 ∧ w.grownBy w' (some r) := by
 have hin := h.inside
 have hA1 := At.new w 3 #[.int .i64 k]
 have hC1 := (Chg.refl w.heap.size r w).alloc (Nat.le_refl _) (.cells #[.int .i64 k] 3)
 have hR1 : RdAt (w.alloc (.cells #[.int .i64 k] 3)) r st := At.alloc h _
 have hz1 : (w.alloc (.cells #[.int .i64 k] 3)).heap.size = w.heap.size + 1 := by simp
 generalize hw1 : w.alloc (.cells #[.int .i64 k] 3) = w1 at hA1 hC1 hR1 hz1
 have hA2 := At.new w1 24 #[.int .u64 0]
 have hA1' := hA1.alloc (.cells #[.int .u64 0] 24)
 have hC2 := hC1.alloc (by omega) (.cells #[.int .u64 0] 24)
 have hR2 : RdAt (w1.alloc (.cells #[.int .u64 0] 24)) r st := At.alloc hR1 _
 have hz2 : (w1.alloc (.cells #[.int .u64 0] 24)).heap.size = w.heap.size + 2 := by simp [hz1]
 rw [hz1] at hA2
 generalize hw2 : w1.alloc (.cells #[.int .u64 0] 24) = w2 at hA2 hA1' hC2 hR2 hz2
 have hs : Calls Try.prog 98 #[.pointer (some ⟨r, 0, none⟩), .func (.func 99) #[] #[.pointer (some ⟨w.heap.size, 0, none⟩), .pointer (some ⟨w.heap.size + 1, 0, none⟩)]] w2 fun e w' => e = .returned (.tuple #[]) ∧ RdAt w' r (numS st k).2 ∧ At w' (w.heap.size + 1) 24 #[.int .u64 ((numS st k).1 : Int)] ∧ Chg w.heap.size r w2 w' := by
  cases st with
  | none =>
   refine (step_broken r _ w2 hR2).mono ?_
   rintro e w' ⟨rfl, rfl⟩
   exact ⟨rfl, hR2, hA2, .refl _ _ _⟩
  | some l =>
   refine (step_num l k r w.heap.size (w.heap.size + 1) 0 w2 (hl l rfl) hR2 hA1' hA2 (by omega) (by omega) w.heap.size (by omega)).mono ?_
   rintro e w' ⟨rfl, a, b, c⟩
   have hv : (numS (some l) k).1 = getN l 0 k := by simp [numS, getN]; split <;> rfl
   rw [hv]
   exact ⟨rfl, a, b, c⟩
 have hb : ∀ W, (zeroValue 24).run Try.prog W = .ok (.int .u64 0) W := fun W => by kernel_rfl
 clear hA1 hA2 hA1' hR1 hR2 hC1 h hl
 go_enter Try.func97, Try.ntmps97
 go_wp2_with fail
 refine hs.mono ?_
 clear hs
 rintro e w3 ⟨rfl, hR3, hN3, hC3⟩
 have c3 := hN3.cell 0
 simp at c3
 go_wp2
 go_ret
 exact ⟨rfl, hR3, (hC2.trans hC3).grown⟩
end Go.Proofs.Ytpefdmkfmcjfnaa.Oct
