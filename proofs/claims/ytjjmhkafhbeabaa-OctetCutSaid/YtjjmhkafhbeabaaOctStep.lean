/-
  The program's reader goes on: a number, a text; of a reader that is none.
-/
import Derived.Test.YtjjmhkafhbeabaaOctRead
namespace Go.Proofs.Ytjjmhkafhbeabaa.Oct
open Go.RowKit Go.Sort Go.Proofs.Ytjjmhkafhbeabaa.Mem Go.Proofs.Ytjjmhkafhbeabaa.Route
set_option linter.unusedVariables false
attribute [local go_sem] str_append str_from str_to

theorem getOk2 (l : Bs) : getOk l 0 2 = decide (2 ≤ l.length) := by
  unfold getOk
  rw [decide_eq_decide]
  omega
theorem getN2 {l : Bs} (h : 2 ≤ l.length) : getN l 0 2 = numL (l.take 2) := by simp [getN, getOk2, h]
theorem num2_lt (l : Bs) : numL (l.take 2) < 65536 :=
  Nat.lt_of_lt_of_le (num_lt _) (Nat.le_trans (Nat.pow_le_pow_right (by decide) (show 8 * (l.take 2).length ≤ 16 by rw [List.length_take]; omega)) (by decide))
/- What is found at the front: a text. -/
set_option maxRecDepth 100000 in
set_option maxHeartbeats 4000000 in
theorem text1_yes (l : Bs) (g : Nat) (x : ByteArray) (w : World) (hl : l.length ≤ 9223372036854775000) (h1 : At w g 9 #[.string x]) (hok : textOk l = true) :
    Calls Try.prog 33 #[.string (str l), .pointer (some ⟨g, 0, none⟩)] w fun e w' => e = .returned (.tuple #[.int .i64 (2 + (numL (l.take 2) : Int)), .bool true]) ∧ w' = w.setCell ⟨g, 0, none⟩ (.string (str ((l.drop 2).take (numL (l.take 2))))) := by
  have hg := Get_any l 0 2 (by omega) w
  have h2 := hok
  simp [textOk] at h2
  obtain ⟨h2, h3⟩ := h2
  have hL := num2_lt l
  rw [getOk2, getN2 h2, decide_eq_true h2] at hg
  obtain ⟨L, hLL⟩ : ∃ L, numL (l.take 2) = L := ⟨_, rfl⟩
  rw [hLL] at hg h3 hL ⊢
  have h4 : (2 : Int) + (L : Int) ≤ (l.length : Int) := by omega
  have e3 : ((2 : Int) + (L : Int)).toNat = 2 + L := by omega
  have e4 : 2 + L - 2 = L := by omega
  have hLi : (L : Int) ≤ 65535 := by omega
  have c1 := h1.cell 0
  have f1 := h1.free 0
  simp at c1
  clear h1 hok h2 h3 hL hLL
  go_enter Try.func33, Try.ntmps33
  go_wp2_with fail
  refine hg.mono ?_
  rintro e w' ⟨rfl, rfl⟩
  go_wp2
  go_ret2
  exact ⟨rfl, by rw [str_cut, e4]⟩
theorem text1_no (l : Bs) (g : Nat) (w : World) (hl : l.length ≤ 9223372036854775000) (hok : textOk l = false) :
    Calls Try.prog 33 #[.string (str l), .pointer (some ⟨g, 0, none⟩)] w fun e w' => e = .returned (.tuple #[.int .i64 0, .bool false]) ∧ w' = w := by
  have hg := Get_any l 0 2 (by omega) w
  by_cases h2 : 2 ≤ l.length
  · have hL := num2_lt l
    have h3 : ¬ 2 + numL (l.take 2) ≤ l.length := by
      simp [textOk] at hok
      omega
    rw [getOk2, getN2 h2, decide_eq_true h2] at hg
    obtain ⟨L, hLL⟩ : ∃ L, numL (l.take 2) = L := ⟨_, rfl⟩
    rw [hLL] at hg h3 hL
    have h4 : (l.length : Int) < 2 + (L : Int) := by omega
    have hLi : (L : Int) ≤ 65535 := by omega
    clear hok h3 hL hLL
    go_enter Try.func33, Try.ntmps33
    go_wp2_with fail
    refine hg.mono ?_
    rintro e w' ⟨rfl, rfl⟩
    go_wp2
    go_ret2
    exact ⟨rfl, rfl⟩
  · have h0 : getN l 0 2 = 0 := by simp [getN, getOk2, h2]
    rw [getOk2, h0, decide_eq_false h2] at hg
    clear hok h2 h0
    go_enter Try.func33, Try.ntmps33
    go_wp2_with fail
    refine hg.mono ?_
    rintro e w' ⟨rfl, rfl⟩
    go_wp2
    go_ret2
    exact ⟨rfl, rfl⟩

/-- A reader that is broken, or none, takes no step. -/
theorem step_broken (r : Nat) (F : Value) (w : World) (h : RdAt w r none) : Calls Try.prog 32 #[.pointer (some ⟨r, 0, none⟩), F] w fun e w' => e = .returned (.tuple #[]) ∧ w' = w := by
  have c1 := At.cell h 1
  simp [rdC] at c1
  go_enter Try.func32, Try.ntmps32
  go_wp2
  refine bodyPost_ret (results_none rfl _ _ _) rfl ?_
  exact ⟨rfl, rfl⟩
theorem step_nil (F : Value) (w : World) : Calls Try.prog 32 #[.pointer none, F] w fun e w' => e = .returned (.tuple #[]) ∧ w' = w := by
  go_enter Try.func32, Try.ntmps32
  go_wp2
  refine bodyPost_ret (results_none rfl _ _ _) rfl ?_
  exact ⟨rfl, rfl⟩
set_option maxRecDepth 100000 in
set_option maxHeartbeats 4000000 in
theorem step_num (l : Bs) (k : Int) (r g1 g2 : Nat) (x : Int) (w : World) (hl : l.length ≤ 9223372036854775000) (h : RdAt w r (some l)) (h1 : At w g1 3 #[.int .i64 k]) (h2 : At w g2 23 #[.int .u64 x]) (n1 : g1 ≠ g2) (n2 : r ≠ g2) (B : Nat) (hB : B ≤ g2) :
    Calls Try.prog 32 #[.pointer (some ⟨r, 0, none⟩), .func (.func 35) #[] #[.pointer (some ⟨g1, 0, none⟩), .pointer (some ⟨g2, 0, none⟩)]] w fun e w' => e = .returned (.tuple #[]) ∧ RdAt w' r (numS (some l) k).2 ∧ At w' g2 23 #[.int .u64 (getN l 0 k : Int)] ∧ Chg B r w w' := by
  have c0 := At.cell h 0
  have c1 := At.cell h 1
  simp [rdC] at c0 c1
  have hn := num1_any l k g1 g2 x w (by omega) h1 h2 n1
  have hR := At.far h n2 0 (.int .u64 (getN l 0 k : Int))
  have hN := h2.put 0 (.int .u64 (getN l 0 k : Int))
  have hC := (Chg.refl B r w).set (.inl hB) 0 (.int .u64 (getN l 0 k : Int))
  clear h h1 h2
  generalize w.setCell ⟨g2, 0, none⟩ (.int .u64 (getN l 0 k : Int)) = w1 at hn hR hN hC
  have d0 := hR.cell 0
  have d1 := hR.cell 1
  have f0 := hR.free 0
  have f1 := hR.free 1
  simp [rdC] at d0 d1
  cases hok : getOk l 0 k
  · rw [hok] at hn
    have hS : (numS (some l) k).2 = none := by simp [numS, hok]
    have hR' : RdAt ((w1.setCell ⟨r, 0, none⟩ (.string (str []))).setCell ⟨r, 1, none⟩ (.bool true)) r none := by
      have := (hR.put 0 (.string (str []))).put 1 (.bool true)
      simpa [RdAt, rdC] using this
    have hN' := (hN.far (Ne.symm n2) 0 (.string (str []))).far (Ne.symm n2) 1 (.bool true)
    have hC' := (hC.set (.inr rfl) 0 (.string (str []))).set (.inr rfl) 1 (.bool true)
    rw [hS]
    clear hR hN hC hS hok
    go_enter Try.func32, Try.ntmps32
    go_wp2_with fail
    refine hn.mono ?_
    rintro e w' ⟨rfl, rfl⟩
    go_wp2
    refine bodyPost_ret (results_none rfl _ _ _) rfl ?_
    exact ⟨rfl, hR', hN', hC'⟩
  · rw [hok] at hn
    have hk : 0 ≤ k ∧ k ≤ (l.length : Int) := by simp [getOk] at hok; omega
    obtain ⟨K, rfl⟩ : ∃ K : Nat, k = K := ⟨k.toNat, by omega⟩
    have hS : (numS (some l) K).2 = some (l.drop K) := by simp [numS, hok]
    have hR' : RdAt (w1.setCell ⟨r, 0, none⟩ (.string (str (l.drop K)))) r (some (l.drop K)) := by
      have := hR.put 0 (.string (str (l.drop K)))
      simpa [RdAt, rdC] using this
    have hN' := hN.far (Ne.symm n2) 0 (.string (str (l.drop K)))
    have hC' := hC.set (.inr rfl) 0 (.string (str (l.drop K)))
    have hKl : (K : Int) ≤ (l.length : Int) := hk.2
    rw [hS]
    clear hR hN hC hS hok hk
    go_enter Try.func32, Try.ntmps32
    go_wp2_with fail
    refine hn.mono ?_
    rintro e w' ⟨rfl, rfl⟩
    go_wp2
    refine bodyPost_end (results_none rfl _ _ _) rfl ?_
    exact ⟨rfl, hR', hN', hC'⟩

set_option maxRecDepth 100000 in
set_option maxHeartbeats 4000000 in
theorem step_text (l : Bs) (r g : Nat) (x : ByteArray) (w : World) (hl : l.length ≤ 9223372036854775000) (h : RdAt w r (some l)) (h1 : At w g 9 #[.string x]) (n2 : r ≠ g) (B : Nat) (hB : B ≤ g) :
    Calls Try.prog 32 #[.pointer (some ⟨r, 0, none⟩), .func (.func 33) #[] #[.pointer (some ⟨g, 0, none⟩)]] w fun e w' => e = .returned (.tuple #[]) ∧ RdAt w' r (textS (some l)).2 ∧ At w' g 9 #[.string (if textOk l then str (textS (some l)).1 else x)] ∧ Chg B r w w' := by
  have c0 := At.cell h 0
  have c1 := At.cell h 1
  simp [rdC] at c0 c1
  cases hok : textOk l
  · have hn := text1_no l g w hl hok
    have hS : (textS (some l)).2 = none := by simp [textS, hok]
    have f0 := At.free h 0
    have f1 := At.free h 1
    have hR' : RdAt ((w.setCell ⟨r, 0, none⟩ (.string (str []))).setCell ⟨r, 1, none⟩ (.bool true)) r none := by
      have := (At.put h 0 (.string (str []))).put 1 (.bool true)
      simpa [RdAt, rdC] using this
    have hN' := (h1.far (Ne.symm n2) 0 (.string (str []))).far (Ne.symm n2) 1 (.bool true)
    have hC' := ((Chg.refl B r w).set (.inr rfl) 0 (.string (str []))).set (.inr rfl) 1 (.bool true)
    rw [hS]
    clear h h1 hS hok
    go_enter Try.func32, Try.ntmps32
    go_wp2_with fail
    refine hn.mono ?_
    rintro e w' ⟨rfl, rfl⟩
    go_wp2
    refine bodyPost_ret (results_none rfl _ _ _) rfl ?_
    exact ⟨rfl, hR', hN', hC'⟩
  · have hn := text1_yes l g x w hl h1 hok
    have hS : (textS (some l)).2 = some (l.drop (2 + numL (l.take 2))) := by simp [textS, hok]
    have hT : (textS (some l)).1 = (l.drop 2).take (numL (l.take 2)) := by simp [textS, hok]
    have h2 := hok
    simp [textOk] at h2
    rw [hS, hT]
    have hL := num2_lt l
    obtain ⟨L, hLL⟩ : ∃ L, numL (l.take 2) = L := ⟨_, rfl⟩
    rw [hLL] at hn h2 hL ⊢
    obtain ⟨T, hTT⟩ : ∃ T, (l.drop 2).take L = T := ⟨_, rfl⟩
    rw [hTT] at hn ⊢
    have hR := At.far h n2 0 (.string (str T))
    have hN := h1.put 0 (.string (str T))
    have hC := (Chg.refl B r w).set (.inl hB) 0 (.string (str T))
    generalize w.setCell ⟨g, 0, none⟩ (.string (str T)) = w1 at hn hR hN hC
    have d0 := hR.cell 0
    have d1 := hR.cell 1
    have f0 := hR.free 0
    simp [rdC] at d0 d1
    have hR' : RdAt (w1.setCell ⟨r, 0, none⟩ (.string (str (l.drop (2 + L))))) r (some (l.drop (2 + L))) := by
      have := hR.put 0 (.string (str (l.drop (2 + L))))
      simpa [RdAt, rdC] using this
    have hN' := hN.far (Ne.symm n2) 0 (.string (str (l.drop (2 + L))))
    have hC' := hC.set (.inr rfl) 0 (.string (str (l.drop (2 + L))))
    have h4 : (2 : Int) + (L : Int) ≤ (l.length : Int) := by omega
    have e3 : ((2 : Int) + (L : Int)).toNat = 2 + L := by omega
    have h5 : (0 : Int) ≤ 2 + (L : Int) := by omega
    clear hR hN hC hS hT hok h h1 h2 hL hLL hTT
    go_enter Try.func32, Try.ntmps32
    go_wp2_with fail
    refine hn.mono ?_
    rintro e w' ⟨rfl, rfl⟩
    go_wp2
    refine bodyPost_end (results_none rfl _ _ _) rfl ?_
    exact ⟨rfl, hR', hN', hC'⟩

set_option maxRecDepth 100000 in
set_option maxHeartbeats 4000000 in
theorem Num_any (k : Int) (r : Nat) (st : St) (w : World) (hl : ∀ l, st = some l → l.length ≤ 9223372036854775000) (h : RdAt w r st) :
    Calls Try.prog 17 #[.pointer (some ⟨r, 0, none⟩), .int .i64 k] w fun e w' => e = .returned (.int .u64 ((numS st k).1 : Int)) ∧ RdAt w' r (numS st k).2 ∧ w.grownBy w' (some r) := by
  have hin := h.inside
  have hA1 := At.new w 3 #[.int .i64 k]
  have hC1 := (Chg.refl w.heap.size r w).alloc (Nat.le_refl _) (.cells #[.int .i64 k] 3)
  have hR1 : RdAt (w.alloc (.cells #[.int .i64 k] 3)) r st := At.alloc h _
  have hz1 : (w.alloc (.cells #[.int .i64 k] 3)).heap.size = w.heap.size + 1 := by simp
  generalize hw1 : w.alloc (.cells #[.int .i64 k] 3) = w1 at hA1 hC1 hR1 hz1
  have hA2 := At.new w1 23 #[.int .u64 0]
  have hA1' := hA1.alloc (.cells #[.int .u64 0] 23)
  have hC2 := hC1.alloc (by omega) (.cells #[.int .u64 0] 23)
  have hR2 : RdAt (w1.alloc (.cells #[.int .u64 0] 23)) r st := At.alloc hR1 _
  have hz2 : (w1.alloc (.cells #[.int .u64 0] 23)).heap.size = w.heap.size + 2 := by simp [hz1]
  rw [hz1] at hA2
  generalize hw2 : w1.alloc (.cells #[.int .u64 0] 23) = w2 at hA2 hA1' hC2 hR2 hz2
  have hs : Calls Try.prog 32 #[.pointer (some ⟨r, 0, none⟩), .func (.func 35) #[] #[.pointer (some ⟨w.heap.size, 0, none⟩), .pointer (some ⟨w.heap.size + 1, 0, none⟩)]] w2 fun e w' => e = .returned (.tuple #[]) ∧ RdAt w' r (numS st k).2 ∧ At w' (w.heap.size + 1) 23 #[.int .u64 ((numS st k).1 : Int)] ∧ Chg w.heap.size r w2 w' := by
    cases st with
    | none =>
      refine (step_broken r _ w2 hR2).mono ?_
      rintro e w' ⟨rfl, rfl⟩
      exact ⟨rfl, hR2, hA2, .refl _ _ _⟩
    | some l =>
      refine (step_num l k r w.heap.size (w.heap.size + 1) 0 w2 (hl l rfl) hR2 hA1' hA2 (by omega) (by omega) w.heap.size (by omega)).mono ?_
      rintro e w' ⟨rfl, a, b, c⟩
      have hv : (numS (some l) k).1 = getN l 0 k := by simp [numS, getN]; split <;> rfl
      rw [hv]
      exact ⟨rfl, a, b, c⟩
  have hb : ∀ W, (zeroValue 23).run Try.prog W = .ok (.int .u64 0) W := fun W => by kernel_rfl
  clear hA1 hA2 hA1' hR1 hR2 hC1 h hl
  go_enter Try.func17, Try.ntmps17
  go_wp2_with fail
  refine hs.mono ?_
  clear hs
  rintro e w3 ⟨rfl, hR3, hN3, hC3⟩
  have c3 := hN3.cell 0
  simp at c3
  go_wp2
  go_ret
  exact ⟨rfl, hR3, (hC2.trans hC3).grown⟩
theorem Num_nil (k : Int) (w : World) : Calls Try.prog 17 #[.pointer none, .int .i64 k] w fun e w' => e = .returned (.int .u64 0) ∧ Below w.heap.size w w' := by
  have hB1 := (Below.refl w.heap.size w).alloc (Nat.le_refl _) (.cells #[.int .i64 k] 3)
  generalize hw1 : w.alloc (.cells #[.int .i64 k] 3) = w1 at hB1
  have hz1 := hB1.size
  have hB2 := hB1.alloc hz1 (.cells #[.int .u64 0] 23)
  have hA2 := At.new w1 23 #[.int .u64 0]
  generalize hw2 : w1.alloc (.cells #[.int .u64 0] 23) = w2 at hA2 hB2
  have c2 := hA2.cell 0
  simp at c2
  clear hA2
  go_enter Try.func17, Try.ntmps17
  go_wp2_with fail
  refine (step_nil _ _).mono ?_
  rintro e w3 ⟨rfl, rfl⟩
  go_wp2
  go_ret
  exact ⟨rfl, hB2⟩
set_option maxRecDepth 100000 in
set_option maxHeartbeats 4000000 in
theorem Text_any (r : Nat) (st : St) (w : World) (hl : ∀ l, st = some l → l.length ≤ 9223372036854775000) (h : RdAt w r st) :
    Calls Try.prog 15 #[.pointer (some ⟨r, 0, none⟩)] w fun e w' => e = .returned (.string (str (textS st).1)) ∧ RdAt w' r (textS st).2 ∧ w.grownBy w' (some r) := by
  have hin := h.inside
  have hA1 := At.new w 9 #[.string (str [])]
  have hC1 := (Chg.refl w.heap.size r w).alloc (Nat.le_refl _) (.cells #[.string (str [])] 9)
  have hR1 : RdAt (w.alloc (.cells #[.string (str [])] 9)) r st := At.alloc h _
  generalize hw1 : w.alloc (.cells #[.string (str [])] 9) = w1 at hA1 hC1 hR1
  have hs : Calls Try.prog 32 #[.pointer (some ⟨r, 0, none⟩), .func (.func 33) #[] #[.pointer (some ⟨w.heap.size, 0, none⟩)]] w1 fun e w' => e = .returned (.tuple #[]) ∧ RdAt w' r (textS st).2 ∧ At w' w.heap.size 9 #[.string (str (textS st).1)] ∧ Chg w.heap.size r w1 w' := by
    cases st with
    | none =>
      refine (step_broken r _ w1 hR1).mono ?_
      rintro e w' ⟨rfl, rfl⟩
      exact ⟨rfl, hR1, hA1, .refl _ _ _⟩
    | some l =>
      refine (step_text l r w.heap.size (str []) w1 (hl l rfl) hR1 hA1 (by omega) w.heap.size (Nat.le_refl _)).mono ?_
      rintro e w' ⟨rfl, a, b, c⟩
      have hv : (if textOk l then str (textS (some l)).1 else str []) = str (textS (some l)).1 := by
        cases hok : textOk l
        · simp [textS, hok]
        · rfl
      rw [hv] at b
      exact ⟨rfl, a, b, c⟩
  clear hA1 hR1 h hl
  go_enter Try.func15, Try.ntmps15
  go_wp2_with fail
  refine hs.mono ?_
  clear hs
  rintro e w3 ⟨rfl, hR3, hN3, hC3⟩
  have c3 := hN3.cell 0
  simp at c3
  go_wp2
  go_ret
  exact ⟨rfl, hR3, (hC1.trans hC3).grown⟩
theorem Text_nil (w : World) : Calls Try.prog 15 #[.pointer none] w fun e w' => e = .returned (.string (str [])) ∧ Below w.heap.size w w' := by
  have hB1 := (Below.refl w.heap.size w).alloc (Nat.le_refl _) (.cells #[.string (str [])] 9)
  have hA1 := At.new w 9 #[.string (str [])]
  generalize hw1 : w.alloc (.cells #[.string (str [])] 9) = w1 at hA1 hB1
  have c1 := hA1.cell 0
  simp at c1
  clear hA1
  go_enter Try.func15, Try.ntmps15
  go_wp2_with fail
  refine (step_nil _ _).mono ?_
  rintro e w3 ⟨rfl, rfl⟩
  go_wp2
  go_ret
  exact ⟨rfl, hB1⟩

end Go.Proofs.Ytjjmhkafhbeabaa.Oct
