import Derived.Test.YtpefdmkfmcjfnaaPkOctArr
import Derived.Handy

namespace Go.Proofs.Ytpefdmkfmcjfnaa.Oct
open Go.RowKit Go.Sort Go.Proofs.Ytpefdmkfmcjfnaa.Mem Go.Proofs.Ytpefdmkfmcjfnaa.Route
set_option linter.unusedVariables false
def numAt (s : Bs) (o j : Nat) : Nat := numL ((s.drop o).take j)
theorem numAt_next {s : Bs} {o j : Nat} (h : o + j < s.length) : numAt s o (j + 1) = numAt s o j * 256 + (s[o + j]'h).toNat := by
 unfold numAt
 rw [List.take_add_one, List.getElem?_drop, List.getElem?_eq_getElem h, Option.toList_some, num_snoc]
theorem numAt_lt (s : Bs) (o j : Nat) : numAt s o j < 2 ^ (8 * j) := by
 refine Nat.lt_of_lt_of_le (num_lt _) (Nat.pow_le_pow_right (by decide) ?_)
 rw [List.length_take]
 omega
theorem numAt_lt7 {s : Bs} {o j : Nat} (h : j < 8) : numAt s o j < 72057594037927936 :=
 Nat.lt_of_lt_of_le (numAt_lt s o j) (Nat.le_trans (Nat.pow_le_pow_right (by decide) (show 8 * j ≤ 56 by omega)) (by decide))
theorem index_text (w : World) (l : Bs) (i : Nat) (h : i < l.length) : (Instr.index 9 (.string (str l)) (.int .i64 (i : Int))).run Try.prog w = .ok (.int .u8 ((l[i]'h).toNat : Int)) w := by
 rw [run_index_string w 9 (str l) .i64 (i : Int) Try.underlying9, dif_pos ⟨by omega, by rw [str_size]; omega⟩]
 congr 3
set_option maxRecDepth 100000 in
set_option maxHeartbeats 4000000 in
theorem Get_any (s : Bs) (o k : Int) (hs : s.length ≤ 9223372036854775807) (w : World) :
 Calls Try.prog 100 #[.string (str s), .int .i64 o, .int .i64 k] w fun e w' => e = .returned (.tuple #[.int .u64 (getN s o k : Int), .bool (getOk s o k)]) ∧ w' = w := by
 have hwd := isWidth_any k w
 have hiw : isW k = true → 1 ≤ k ∧ k ≤ 8 := fun h => by simpa [isW] using h
 have hex : getOk s o k = true ↔ 1 ≤ k ∧ k ≤ 8 ∧ 0 ≤ o ∧ o ≤ (s.length : Int) - k := by simp [getOk]
 cases hw : isW k
 · have hO : getOk s o k = false := by
    rw [← Bool.not_eq_true, hex]
    simp [isW] at hw
    omega
   have hN : getN s o k = 0 := by simp [getN, hO]
   rw [hO, hN]
   rw [hw] at hwd
   clear hex hiw hO hN hw
   go_enter Try.func100, Try.ntmps100
   go_wp2_with fail
   refine hwd.mono ?_
   rintro e w' ⟨rfl, rfl⟩
   go_wp2
   go_ret2
   exact ⟨rfl, rfl⟩
 rw [hw] at hwd
 obtain ⟨hk1, hk8⟩ := hiw hw
 have hsz : (s.length : Int) ≤ 9223372036854775807 := by omega
 have hs0 : (0 : Int) ≤ (s.length : Int) := by omega
 by_cases h0 : o < 0
 · have hO : getOk s o k = false := by
    rw [← Bool.not_eq_true, hex]
    omega
   have hN : getN s o k = 0 := by simp [getN, hO]
   rw [hO, hN]
   clear hex hiw hO hN hw
   go_enter Try.func100, Try.ntmps100
   go_wp2_with fail
   refine hwd.mono ?_
   rintro e w' ⟨rfl, rfl⟩
   go_wp2
   go_ret2
   exact ⟨rfl, rfl⟩
 by_cases h1 : (s.length : Int) - k < o
 · have hO : getOk s o k = false := by
    rw [← Bool.not_eq_true, hex]
    omega
   have hN : getN s o k = 0 := by simp [getN, hO]
   rw [hO, hN]
   clear hex hiw hO hN hw
   go_enter Try.func100, Try.ntmps100
   go_wp2_with fail
   refine hwd.mono ?_
   rintro e w' ⟨rfl, rfl⟩
   go_wp2
   go_ret2
   exact ⟨rfl, rfl⟩
 have hO : getOk s o k = true := hex.2 (by omega)
 obtain ⟨K, rfl⟩ : ∃ K : Nat, k = K := ⟨k.toNat, by omega⟩
 obtain ⟨O, rfl⟩ : ∃ O : Nat, o = O := ⟨o.toNat, by omega⟩
 have hN : getN s O K = numAt s O K := by simp [getN, hO, numAt]
 rw [hO, hN]
 have hfit : O + K ≤ s.length := by omega
 have hK8 : K ≤ 8 := by omega
 clear hex hiw hO hN hw
 go_enter Try.func100, Try.ntmps100
 go_wp2_with fail
 refine hwd.mono ?_
 rintro e w' ⟨rfl, rfl⟩
 go_wp2_with fail
 go_loopw [8, 26] (fun n c wr => ∃ j : Nat, c = .int .i64 (j : Int) ∧ j ≤ K ∧ n = .int .u64 (numAt s O j : Int) ∧ wr = w')
  (fun _ c _ => K - (intOf c).toNat)
 case atStart => exact ⟨0, rfl, Nat.zero_le _, rfl, rfl⟩
 case round =>
  obtain ⟨j, rfl, hjk, rfl, rfl⟩ := hrel
  by_cases hlt : j < K
  · have hij : O + j < s.length := by omega
    have hix := fun W => index_text W s (O + j) hij
    have hlt' : (j : Int) < (K : Int) := by omega
    have hnx := numAt_next (s := s) (o := O) (j := j) hij
    have h7 := numAt_lt7 (s := s) (o := O) (j := j) (by omega)
    obtain ⟨V, hV⟩ : ∃ V, numAt s O j = V := ⟨_, rfl⟩
    obtain ⟨b, hb⟩ : ∃ b, s[O + j]'hij = b := ⟨_, rfl⟩
    rw [hV] at hnx h7
    rw [hb] at hnx hix
    have hor := or_byte b h7
    have hVi : (V : Int) < 72057594037927936 := by omega
    have hcast : ((O + j : Nat) : Int) = (O : Int) + (j : Int) := by omega
    rw [hcast] at hix
    have hOj : (O : Int) + (j : Int) ≤ 9223372036854775807 := by omega
    have hx256 := b.toNat_lt
    obtain ⟨x, hx⟩ : ∃ x, b.toNat = x := ⟨_, rfl⟩
    rw [hx] at hnx hor hix hx256
    have hx1 : (x : Int) < 256 := by omega
    have hnx' := Lib.hid hnx
    rw [hV]
    clear hx hx256
    clear hcast hV hb hnx hwd hsz hs0 hk1 hk8 h0 h1 h7
    go_wp2_with fail
    go_roundw
    case rel => exact ⟨j + 1, by go_num, by omega, by rw [hnx'.out, Int.natCast_add, Int.natCast_mul]; rfl, trivial⟩
    case measure => simp [intOf]; omega
  · obtain rfl : j = K := by omega
    clear hlt
    go_wp2
    go_ret2
    exact ⟨rfl, rfl⟩
attribute [local go_sem] str_append str_from str_to
structure Chg (B r : Nat) (w w' : World) : Prop where
 os : w'.os = w.os
 tape : w'.tape = w.tape
 output : w'.output = w.output
 size : w.heap.size ≤ w'.heap.size
 block : ∀ k, k < B → k ≠ r → w'.heap[k]? = w.heap[k]?
theorem Chg.of_below {B r : Nat} {w v : World} (h : Below B w v) : Chg B r w v := ⟨h.os, h.tape, h.output, h.size, fun k hk _ => h.block k hk⟩
theorem Chg.refl (B r : Nat) (w : World) : Chg B r w w := .of_below (.refl _ _)
theorem Chg.trans {B r : Nat} {a b c : World} (h : Chg B r a b) (k : Chg B r b c) : Chg B r a c :=
 ⟨k.os.trans h.os, k.tape.trans h.tape, k.output.trans h.output, Nat.le_trans h.size k.size, fun j hj hr => (k.block j hj hr).trans (h.block j hj hr)⟩
theorem Chg.alloc {B r : Nat} {w v : World} (h : Chg B r w v) (hB : B ≤ v.heap.size) (o : Obj) : Chg B r w (v.alloc o) := h.trans (.of_below ((Below.refl _ _).alloc hB o))
theorem Chg.set {B r : Nat} {w v : World} (h : Chg B r w v) {g : Nat} (hg : B ≤ g ∨ g = r) (i : Nat) (x : Value) : Chg B r w (v.setCell ⟨g, i, none⟩ x) :=
 h.trans ⟨rfl, rfl, rfl, by simp [World.setCell], fun k hk hr => Below.heap_setCell v _ x k (by rcases hg with hg | hg <;> simp <;> omega)⟩
theorem Chg.row {B r : Nat} {w v : World} (h : Chg B r w v) {g : Nat} (hg : B ≤ g ∨ g = r) (cs : Array Value) : Chg B r w (v.setRow g cs) :=
 h.trans ⟨rfl, rfl, rfl, by rw [setRow_size]; exact Nat.le_refl _, fun k hk hr => setRow_other v g k cs (by rcases hg with hg | hg <;> omega)⟩
theorem Chg.grown {r : Nat} {w v : World} (h : Chg w.heap.size r w v) : w.grownBy v (some r) := ⟨h.os, h.tape, h.output, h.size, fun k hk hr => h.block k hk (by simpa using hr)⟩
def rdC : St → Array Value
 | some l => #[.string (str l), .bool false]
 | none => #[.string (str []), .bool true]
def RdAt (w : World) (g : Nat) (st : St) : Prop := At w g 125 (rdC st)
theorem RdAt.keep {B : Nat} {w v : World} {g : Nat} {st : St} (h : RdAt w g st) (hb : Below B w v) (hg : g < B) : RdAt v g st := At.keep h hb hg
theorem RdAt.inside {w : World} {g : Nat} {st : St} (h : RdAt w g st) : g < w.heap.size := At.inside h
theorem RdAt.on {w v : World} {g : Nat} {st : St} (h : RdAt w g st) (hb : Below w.heap.size w v) : RdAt v g st := h.keep hb h.inside
theorem RdAt.same {w v : World} {g : Nat} {st : St} (h : RdAt w g st) (hb : v.heap[g]? = w.heap[g]?) : RdAt v g st := hb.trans h
theorem Read_any (l : Bs) (w : World) : Calls Try.prog 45 #[.string (str l)] w fun e w' => e = .returned (.pointer (some ⟨w.heap.size, 0, none⟩)) ∧ RdAt w' w.heap.size (some l) ∧ Below w.heap.size w w' := by
 have hA : RdAt (w.alloc (.cells #[.string (str l), .bool false] 125)) w.heap.size (some l) := At.new w _ _
 have hB : Below w.heap.size w (w.alloc (.cells #[.string (str l), .bool false] 125)) := (Below.refl _ _).alloc (Nat.le_refl _) _
 go_enter Try.func45, Try.ntmps45
 go_wp2
 go_ret
 exact ⟨rfl, hA, hB⟩
theorem End_any (r : Nat) (st : St) (w : World) (h : RdAt w r st) : Calls Try.prog 46 #[.pointer (some ⟨r, 0, none⟩)] w fun e w' => e = .returned (.int .i64 (endS st)) ∧ w' = w := by
 rcases st with _ | (_ | ⟨b, l⟩)
 all_goals
  have c0 := At.cell h 0
  have c1 := At.cell h 1
  simp [rdC] at c0 c1
  go_enter Try.func46, Try.ntmps46
  go_wp2
  go_ret
  exact ⟨rfl, rfl⟩
theorem num1_any (l : Bs) (k : Int) (g1 g2 : Nat) (x : Int) (w : World) (hl : l.length ≤ 9223372036854775807) (h1 : At w g1 3 #[.int .i64 k]) (h2 : At w g2 24 #[.int .u64 x]) (hne : g1 ≠ g2) :
 Calls Try.prog 99 #[.string (str l), .pointer (some ⟨g1, 0, none⟩), .pointer (some ⟨g2, 0, none⟩)] w fun e w' => e = .returned (.tuple #[.int .i64 k, .bool (getOk l 0 k)]) ∧ w' = w.setCell ⟨g2, 0, none⟩ (.int .u64 (getN l 0 k : Int)) := by
 have hg := Get_any l 0 k hl w
 have c1 := h1.cell 0
 have c2 := h2.cell 0
 have f2 := h2.free 0
 simp at c1 c2
 have c1' : (w.setCell ⟨g2, 0, none⟩ (.int .u64 (getN l 0 k : Int))).cell? ⟨g1, 0, none⟩ = some (.int .i64 k) := (At.far h1 hne 0 _).cell 0
 clear h1 h2
 go_enter Try.func99, Try.ntmps99
 go_wp2_with fail
 refine hg.mono ?_
 rintro e w' ⟨rfl, rfl⟩
 go_wp2
 go_ret2
 exact ⟨rfl, rfl⟩
attribute [local go_sem] str_append str_from str_to
theorem step_broken (r : Nat) (F : Value) (w : World) (h : RdAt w r none) : Calls Try.prog 98 #[.pointer (some ⟨r, 0, none⟩), F] w fun e w' => e = .returned (.tuple #[]) ∧ w' = w := by
 have c1 := At.cell h 1
 simp [rdC] at c1
 go_enter Try.func98, Try.ntmps98
 go_wp2
 refine bodyPost_ret (results_none rfl _ _ _) rfl ?_
 exact ⟨rfl, rfl⟩
set_option maxRecDepth 100000 in
set_option maxHeartbeats 4000000 in
theorem step_num (l : Bs) (k : Int) (r g1 g2 : Nat) (x : Int) (w : World) (hl : l.length ≤ 9223372036854775000) (h : RdAt w r (some l)) (h1 : At w g1 3 #[.int .i64 k]) (h2 : At w g2 24 #[.int .u64 x]) (n1 : g1 ≠ g2) (n2 : r ≠ g2) (B : Nat) (hB : B ≤ g2) :
 Calls Try.prog 98 #[.pointer (some ⟨r, 0, none⟩), .func (.func 99) #[] #[.pointer (some ⟨g1, 0, none⟩), .pointer (some ⟨g2, 0, none⟩)]] w fun e w' => e = .returned (.tuple #[]) ∧ RdAt w' r (numS (some l) k).2 ∧ At w' g2 24 #[.int .u64 (getN l 0 k : Int)] ∧ Chg B r w w' := by
 have c0 := At.cell h 0
 have c1 := At.cell h 1
 simp [rdC] at c0 c1
 have hn := num1_any l k g1 g2 x w (by omega) h1 h2 n1
 have hR := At.far h n2 0 (.int .u64 (getN l 0 k : Int))
 have hN := h2.put 0 (.int .u64 (getN l 0 k : Int))
 have hC := (Chg.refl B r w).set (.inl hB) 0 (.int .u64 (getN l 0 k : Int))
 clear h h1 h2
 generalize w.setCell ⟨g2, 0, none⟩ (.int .u64 (getN l 0 k : Int)) = w1 at hn hR hN hC
 have d0 := hR.cell 0
 have d1 := hR.cell 1
 have f0 := hR.free 0
 have f1 := hR.free 1
 simp [rdC] at d0 d1
 cases hok : getOk l 0 k
 · rw [hok] at hn
   have hS : (numS (some l) k).2 = none := by simp [numS, hok]
   have hR' : RdAt ((w1.setCell ⟨r, 0, none⟩ (.string (str []))).setCell ⟨r, 1, none⟩ (.bool true)) r none := by
    have := (hR.put 0 (.string (str []))).put 1 (.bool true)
    simpa [RdAt, rdC] using this
   have hN' := (hN.far (Ne.symm n2) 0 (.string (str []))).far (Ne.symm n2) 1 (.bool true)
   have hC' := (hC.set (.inr rfl) 0 (.string (str []))).set (.inr rfl) 1 (.bool true)
   rw [hS]
   clear hR hN hC hS hok
   go_enter Try.func98, Try.ntmps98
   go_wp2_with fail
   refine hn.mono ?_
   rintro e w' ⟨rfl, rfl⟩
   go_wp2
   refine bodyPost_ret (results_none rfl _ _ _) rfl ?_
   exact ⟨rfl, hR', hN', hC'⟩
 · rw [hok] at hn
   have hk : 0 ≤ k ∧ k ≤ (l.length : Int) := by simp [getOk] at hok; omega
   obtain ⟨K, rfl⟩ : ∃ K : Nat, k = K := ⟨k.toNat, by omega⟩
   have hS : (numS (some l) K).2 = some (l.drop K) := by simp [numS, hok]
   have hR' : RdAt (w1.setCell ⟨r, 0, none⟩ (.string (str (l.drop K)))) r (some (l.drop K)) := by
    have := hR.put 0 (.string (str (l.drop K)))
    simpa [RdAt, rdC] using this
   have hN' := hN.far (Ne.symm n2) 0 (.string (str (l.drop K)))
   have hC' := hC.set (.inr rfl) 0 (.string (str (l.drop K)))
   have hKl : (K : Int) ≤ (l.length : Int) := hk.2
   rw [hS]
   clear hR hN hC hS hok hk
   go_enter Try.func98, Try.ntmps98
   go_wp2_with fail
   refine hn.mono ?_
   rintro e w' ⟨rfl, rfl⟩
   go_wp2
   refine bodyPost_end (results_none rfl _ _ _) rfl ?_
   exact ⟨rfl, hR', hN', hC'⟩
set_option maxRecDepth 100000 in
set_option maxHeartbeats 4000000 in
theorem Num_any (k : Int) (r : Nat) (st : St) (w : World) (hl : ∀ l, st = some l → l.length ≤ 9223372036854775000) (h : RdAt w r st) :
 Calls Try.prog 97 #[.pointer (some ⟨r, 0, none⟩), .int .i64 k] w fun e w' => e = .returned (.int .u64 ((numS st k).1 : Int)) ∧ RdAt w' r (numS st k).2 ∧ w.grownBy w' (some r) := by
 have hin := h.inside
 have hA1 := At.new w 3 #[.int .i64 k]
 have hC1 := (Chg.refl w.heap.size r w).alloc (Nat.le_refl _) (.cells #[.int .i64 k] 3)
 have hR1 : RdAt (w.alloc (.cells #[.int .i64 k] 3)) r st := At.alloc h _
 have hz1 : (w.alloc (.cells #[.int .i64 k] 3)).heap.size = w.heap.size + 1 := by simp
 generalize hw1 : w.alloc (.cells #[.int .i64 k] 3) = w1 at hA1 hC1 hR1 hz1
 have hA2 := At.new w1 24 #[.int .u64 0]
 have hA1' := hA1.alloc (.cells #[.int .u64 0] 24)
 have hC2 := hC1.alloc (by omega) (.cells #[.int .u64 0] 24)
 have hR2 : RdAt (w1.alloc (.cells #[.int .u64 0] 24)) r st := At.alloc hR1 _
 have hz2 : (w1.alloc (.cells #[.int .u64 0] 24)).heap.size = w.heap.size + 2 := by simp [hz1]
 rw [hz1] at hA2
 generalize hw2 : w1.alloc (.cells #[.int .u64 0] 24) = w2 at hA2 hA1' hC2 hR2 hz2
 have hs : Calls Try.prog 98 #[.pointer (some ⟨r, 0, none⟩), .func (.func 99) #[] #[.pointer (some ⟨w.heap.size, 0, none⟩), .pointer (some ⟨w.heap.size + 1, 0, none⟩)]] w2 fun e w' => e = .returned (.tuple #[]) ∧ RdAt w' r (numS st k).2 ∧ At w' (w.heap.size + 1) 24 #[.int .u64 ((numS st k).1 : Int)] ∧ Chg w.heap.size r w2 w' := by
  cases st with
  | none =>
   refine (step_broken r _ w2 hR2).mono ?_
   rintro e w' ⟨rfl, rfl⟩
   exact ⟨rfl, hR2, hA2, .refl _ _ _⟩
  | some l =>
   refine (step_num l k r w.heap.size (w.heap.size + 1) 0 w2 (hl l rfl) hR2 hA1' hA2 (by omega) (by omega) w.heap.size (by omega)).mono ?_
   rintro e w' ⟨rfl, a, b, c⟩
   have hv : (numS (some l) k).1 = getN l 0 k := by simp [numS, getN]; split <;> rfl
   rw [hv]
   exact ⟨rfl, a, b, c⟩
 have hb : ∀ W, (zeroValue 24).run Try.prog W = .ok (.int .u64 0) W := fun W => by kernel_rfl
 clear hA1 hA2 hA1' hR1 hR2 hC1 h hl
 go_enter Try.func97, Try.ntmps97
 go_wp2_with fail
 refine hs.mono ?_
 clear hs
 rintro e w3 ⟨rfl, hR3, hN3, hC3⟩
 have c3 := hN3.cell 0
 simp at c3
 go_wp2
 go_ret
 exact ⟨rfl, hR3, (hC2.trans hC3).grown⟩
end Go.Proofs.Ytpefdmkfmcjfnaa.Oct
namespace Go.Proofs.Ytpefdmkfmcjfnaa.Mp
open Go.RowKit Go.Sort Go.Proofs.Ytpefdmkfmcjfnaa.Mem Go.Proofs.Ytpefdmkfmcjfnaa.Route Go.Proofs.Ytpefdmkfmcjfnaa.Oct
set_option linter.unusedVariables false
def WrAt (w : World) (g : Nat) (s : Bs) : Prop := At w g 75 #[.string (str s)]
theorem WrAt.inside {w : World} {g : Nat} {s : Bs} (h : WrAt w g s) : g < w.heap.size := At.inside h
set_option maxRecDepth 100000 in
set_option maxHeartbeats 4000000 in
theorem wtell_any (g : Nat) (s : Bs) (n : Nat) (k : Int) (w : World) (hn : n < 18446744073709551616) (hs : s.length ≤ 281474976710000) (h : WrAt w g s) :
 Calls Try.prog 89 #[.pointer (some ⟨g, 0, none⟩), .int .u64 (n : Int), .int .i64 k] w fun e w' => e = .returned (.int .u64 (n : Int)) ∧ WrAt w' g (putB s n k) ∧ w.grownBy w' (some g) := by
 have hp := Lib.hid (Put_any s n k hn hs w)
 have c0 := At.cell h 0
 simp at c0
 go_enter Try.func89, Try.ntmps89
 go_wp2_with fail
 refine hp.out.mono ?_
 rintro e w1 ⟨rfl, hb⟩
 have hA1 := At.keep h hb h.inside
 have hW : WrAt (w1.setCell ⟨g, 0, none⟩ (.string (str (putB s n k)))) g (putB s n k) := by
  have := hA1.put 0 (.string (str (putB s n k)))
  simpa [WrAt] using this
 have hC : w.grownBy (w1.setCell ⟨g, 0, none⟩ (.string (str (putB s n k)))) (some g) := ((Chg.of_below (r := g) hb).set (.inr rfl) 0 (.string (str (putB s n k)))).grown
 have d0 := hA1.cell 0
 have f0 := hA1.free 0
 simp at d0
 replace hW := Lib.hid hW
 replace hC := Lib.hid hC
 clear hA1 h c0
 go_wp2
 go_ret
 exact ⟨rfl, hW.out, hC.out⟩
set_option maxRecDepth 100000 in
set_option maxHeartbeats 4000000 in
theorem rtell_any (r : Nat) (st : St) (n k : Int) (w : World) (hl : ∀ l, st = some l → l.length ≤ 9223372036854775000) (h : RdAt w r st) :
 Calls Try.prog 96 #[.agg #[.pointer (some ⟨r, 0, none⟩)], .int .u64 n, .int .i64 k] w fun e w' => e = .returned (.int .u64 ((numS st k).1 : Int)) ∧ RdAt w' r (numS st k).2 ∧ w.grownBy w' (some r) := by
 have hin := h.inside
 have hA := At.new w 106 #[.pointer (some ⟨r, 0, none⟩)]
 have hB : Below w.heap.size w (w.alloc (.cells #[.pointer (some ⟨r, 0, none⟩)] 106)) := (Below.refl _ _).alloc (Nat.le_refl _) _
 have hN := Lib.hid (Num_any k r st _ hl (h.keep hB hin))
 go_enter Try.func96, Try.ntmps96
 go_wp2_with fail
 refine hN.out.mono ?_
 rintro e w1 ⟨rfl, hR, hG⟩
 have hC : w.grownBy w1 (some r) := ⟨hG.os.trans hB.os, hG.tape.trans hB.tape, hG.output.trans hB.output, Nat.le_trans hB.size hG.size, fun j hj hr => (hG.block j (Nat.lt_of_lt_of_le hj hB.size) hr).trans (hB.block j hj)⟩
 replace hC := Lib.hid hC
 replace hR := Lib.hid hR
 clear hG hN hA hB
 go_wp2
 go_ret
 exact ⟨rfl, hR.out, hC.out⟩
end Go.Proofs.Ytpefdmkfmcjfnaa.Mp
