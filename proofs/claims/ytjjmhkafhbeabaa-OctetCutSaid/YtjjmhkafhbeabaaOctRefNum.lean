/-
  The document's reader goes on: a number, a text.
-/
import Derived.Test.YtjjmhkafhbeabaaOctRefRd
namespace Go.Proofs.Ytjjmhkafhbeabaa.Oct
open Go.RowKit Go.Sort Go.Proofs.Ytjjmhkafhbeabaa.Mem Go.Proofs.Ytjjmhkafhbeabaa.Route
set_option linter.unusedVariables false
attribute [local go_sem] str_append str_from str_to

theorem ret_str {a b : Bs} (h : a = b) : Ending.returned (.string (str a)) = .returned (.string (str b)) := by rw [h]
theorem grown_trans {u w v : World} {r : Nat} (h : u.grownBy w (some r)) (hb : w.grownBy v (some r)) : u.grownBy v (some r) :=
  ⟨hb.os.trans h.os, hb.tape.trans h.tape, hb.output.trans h.output, Nat.le_trans h.size hb.size, fun k hk hne => (hb.block k (Nat.lt_of_lt_of_le hk h.size) hne).trans (h.block k hk hne)⟩
theorem getOk_take {l : Bs} {k : Nat} (h1 : 1 ≤ k) (h8 : k ≤ 8) (hl : k ≤ l.length) : getOk (l.take k) 0 k = true := by
  simp [getOk, List.length_take]
  omega
theorem getOk_nil {k : Nat} (h1 : 1 ≤ k) : getOk [] 0 k = false := by
  simp [getOk]
  omega
set_option maxRecDepth 100000 in
set_option maxHeartbeats 4000000 in
theorem refNum_raw (k : Int) (m : Nat) (l : Bs) (b : Bool) (w : World) (hl : l.length ≤ 9223372036854775000) (h : At w m 37 #[.string (str l), .bool b]) :
    Calls Try.prog 18 #[.pointer (some ⟨m, 0, none⟩), .int .i64 k] w fun e w' => e = .returned (.int .u64 ((numS (stOf l b) k).1 : Int)) ∧ RfIn l.length w' m (numS (stOf l b) k).2 ∧ w.grownBy w' (some m) := by
  have c1 := h.cell 1
  have f1 := h.free 1
  simp at c1
  cases hw : isW k
  · have hbr : At (w.setCell ⟨m, 1, none⟩ (.bool true)) m 37 #[.string (str l), .bool true] := by
      have := h.put 1 (.bool true)
      simpa using this
    have hgr := ((Chg.refl w.heap.size m w).set (.inr rfl) 1 (.bool true)).grown
    have hno : ∀ l : Bs, getOk l 0 k = false := fun l => by
      rw [← Bool.not_eq_true]
      intro h
      simp [getOk] at h
      simp [isW] at hw
      omega
    have hS : numS (stOf l b) k = (0, none) := by cases b <;> simp [stOf, numS, hno]
    rw [hS]
    have hpost : RfIn l.length (w.setCell ⟨m, 1, none⟩ (.bool true)) m none := ⟨l, true, rfl, Nat.le_refl _, hbr⟩
    have hpostH := Lib.hid hpost
    clear hbr hS hno hpost h
    by_cases h1 : k < 1
    · go_enter Try.func18, Try.ntmps18
      go_wp2
      go_ret
      exact ⟨rfl, hpostH.out, hgr⟩
    · have h8 : 8 < k := by simp [isW] at hw; omega
      go_enter Try.func18, Try.ntmps18
      go_wp2
      go_ret
      exact ⟨rfl, hpostH.out, hgr⟩
  · have hk : 1 ≤ k ∧ k ≤ 8 := by simpa [isW] using hw
    obtain ⟨hk1, hk8⟩ := hk
    obtain ⟨K, rfl⟩ : ∃ K : Nat, k = K := ⟨k.toNat, by omega⟩
    have ht := take_any m l b K w hl (by omega) h
    have hend : ∃ n : Nat, ∃ ok : Bool, getN (takeS l b K).1 0 K = n ∧ getOk (takeS l b K).1 0 K = ok ∧ (numS (stOf l b) K).1 = n ∧ stOf (takeS l b K).2.1 (takeS l b K).2.2 = (numS (stOf l b) K).2 ∧ (takeS l b K).2.1.length ≤ l.length ∧ (takeS l b K).1.length ≤ l.length := by
      refine ⟨_, _, rfl, rfl, ?_⟩
      cases b
      · by_cases hle : K ≤ l.length
        · have hS : takeS l false K = (l.take K, l.drop K, false) := by simp [takeS, hle]
          have hok : getOk l 0 (K : Int) = true := by simp [getOk]; omega
          have ho2 := getOk_take (l := l) (k := K) (by omega) (by omega) hle
          rw [hS]
          refine ⟨?_, ?_, ?_, ?_⟩
          · simp [stOf, numS, hok, getN, ho2, List.take_take]
          · simp [stOf, numS, hok]
          · simp
          · simp; omega
        · have hS : takeS l false K = ([], l, true) := by simp [takeS, hle]
          have hok : getOk l 0 (K : Int) = false := by simp [getOk]; omega
          have ho2 := getOk_nil (k := K) (by omega)
          rw [hS]
          refine ⟨?_, ?_, Nat.le_refl _, Nat.zero_le _⟩
          · simp [stOf, numS, hok, getN, ho2]
          · simp [stOf, numS, hok]
      · have hS : takeS l true K = ([], l, true) := by simp [takeS]
        have ho2 := getOk_nil (k := K) (by omega)
        rw [hS]
        refine ⟨?_, ?_, Nat.le_refl _, Nat.zero_le _⟩
        · simp [stOf, numS, getN, ho2]
        · simp [stOf, numS]
    obtain ⟨N, ok, hN, hO, h1, h2, h3, h4⟩ := hend
    obtain ⟨T, hT⟩ : ∃ T, takeS l b K = T := ⟨_, rfl⟩
    rw [hT] at ht hN hO h2 h3 h4
    have hg := fun W => refGet_any T.1 0 K (by omega) W
    rw [hN, hO] at hg
    rw [h1]
    have h2H := Lib.hid h2
    have h3H := Lib.hid h3
    clear h2 h3 h1 hT hN hO hw h4
    go_enter Try.func18, Try.ntmps18
    go_wp2_with fail
    refine ht.mono ?_
    clear ht
    rintro e w1 ⟨rfl, hA1, hg1⟩
    go_wp2_with fail
    refine (hg _).mono ?_
    clear hg
    rintro e w2 ⟨rfl, rfl⟩
    go_wp2
    go_ret
    exact ⟨rfl, ⟨_, _, h2H.out, h3H.out, hA1⟩, hg1⟩
theorem refNum_any (k : Int) (m : Nat) (st : St) (w : World) (h : RfAt w m st) :
    Calls Try.prog 18 #[.pointer (some ⟨m, 0, none⟩), .int .i64 k] w fun e w' => e = .returned (.int .u64 ((numS st k).1 : Int)) ∧ RfAt w' m (numS st k).2 ∧ w.grownBy w' (some m) := by
  obtain ⟨l, b, rfl, h1, hA⟩ := h
  refine (refNum_raw k m l b w h1 hA).mono ?_
  rintro e w' ⟨he, ⟨l', b', h2, h3, h4⟩, h5⟩
  exact ⟨he, ⟨l', b', h2, by omega, h4⟩, h5⟩

set_option maxRecDepth 100000 in
set_option maxHeartbeats 4000000 in
theorem refText_any (m : Nat) (st : St) (w : World) (h : RfAt w m st) :
    Calls Try.prog 16 #[.pointer (some ⟨m, 0, none⟩)] w fun e w' => e = .returned (.string (str (textS st).1)) ∧ RfAt w' m (textS st).2 ∧ w.grownBy w' (some m) := by
  obtain ⟨l, b, rfl, hl, hA⟩ := h
  have hn := refNum_raw 2 m l b w hl hA
  have hN16 : (numS (stOf l b) 2).1 < 65536 := by
    cases b
    · simp only [stOf, numS, Bool.false_eq_true, if_false]
      split
      · exact num2_lt l
      · decide
    · simp [stOf, numS]
  have hT : ∀ l' b', stOf l' b' = (numS (stOf l b) 2).2 → (takeS l' b' (numS (stOf l b) 2).1).1 = (textS (stOf l b)).1 ∧ stOf (takeS l' b' (numS (stOf l b) 2).1).2.1 (takeS l' b' (numS (stOf l b) 2).1).2.2 = (textS (stOf l b)).2 ∧ (takeS l' b' (numS (stOf l b) 2).1).2.1.length ≤ l'.length := by
    intro l' b' he
    cases b'
    · have hst : some l' = (numS (stOf l b) 2).2 := he
      cases b
      case true => simp [stOf, numS] at hst
      simp only [stOf, Bool.false_eq_true, if_false] at hst ⊢
      cases h2 : getOk l 0 2
      · simp [numS, h2] at hst
      have h2l : 2 ≤ l.length := by rw [getOk2] at h2; simpa using h2
      have hv : numS (some l) 2 = (numL (l.take 2), some (l.drop 2)) := by simp [numS, h2]
      rw [hv] at hst ⊢
      obtain rfl : l' = l.drop 2 := Option.some.inj hst
      by_cases hok : 2 + numL (l.take 2) ≤ l.length
      · have ho : textOk l = true := by simp [textOk]; omega
        have hle : numL (l.take 2) ≤ (l.drop 2).length := by rw [List.length_drop]; omega
        have hS : takeS (l.drop 2) false (numL (l.take 2)) = ((l.drop 2).take (numL (l.take 2)), (l.drop 2).drop (numL (l.take 2)), false) := by simp only [takeS, hle, if_true, Bool.false_eq_true, if_false]
        simp only [hS, textS, ho, if_true]
        refine ⟨trivial, ?_, ?_⟩
        · rw [List.drop_drop]
          rfl
        · simp only [List.length_drop]
          omega
      · have ho : textOk l = false := by simp [textOk]; omega
        have hle : ¬ numL (l.take 2) ≤ (l.drop 2).length := by rw [List.length_drop]; omega
        have hS : takeS (l.drop 2) false (numL (l.take 2)) = ([], l.drop 2, true) := by simp only [takeS, hle, if_false, Bool.false_eq_true]
        simp only [hS, textS, ho, Bool.false_eq_true, if_false]
        exact ⟨trivial, rfl, Nat.le_refl _⟩
    · have hst : none = (numS (stOf l b) 2).2 := he
      have hS : ∀ n, takeS l' true n = ([], l', true) := fun n => by simp [takeS]
      rw [hS]
      have ht : textS (stOf l b) = ([], none) := by
        cases b
        · simp only [stOf, Bool.false_eq_true, if_false] at hst ⊢
          cases h2 : getOk l 0 2
          · have : ¬ 2 ≤ l.length := by rw [getOk2] at h2; simpa using h2
            have ho : textOk l = false := by simp [textOk]; omega
            simp [textS, ho]
          · simp [numS, h2] at hst
        · rfl
      rw [ht]
      exact ⟨rfl, rfl, Nat.le_refl _⟩
  obtain ⟨N, hNN⟩ : ∃ N, (numS (stOf l b) 2).1 = N := ⟨_, rfl⟩
  obtain ⟨S, hS⟩ : ∃ S, (numS (stOf l b) 2).2 = S := ⟨_, rfl⟩
  rw [hNN] at hn hN16 hT
  rw [hS] at hn hT
  obtain ⟨X1, hX1⟩ : ∃ X, (textS (stOf l b)).1 = X := ⟨_, rfl⟩
  obtain ⟨X2, hX2⟩ : ∃ X, (textS (stOf l b)).2 = X := ⟨_, rfl⟩
  rw [hX1, hX2] at hT ⊢
  have hTH := Lib.hid hT
  have hNi : (N : Int) ≤ 65535 := by omega
  clear hT hNN hS hX1 hX2
  go_enter Try.func16, Try.ntmps16
  go_wp2_with fail
  refine hn.mono ?_
  clear hn
  rintro e w1 ⟨rfl, ⟨l', b', h2, h3, h4⟩, h5⟩
  obtain ⟨e1, e2, e3⟩ := hTH.out l' b' h2
  have ht := take_any m l' b' N w1 (by omega) (by omega) h4
  obtain ⟨T, hTT⟩ : ∃ T, takeS l' b' N = T := ⟨_, rfl⟩
  rw [hTT] at ht e1 e2 e3
  have e1H := Lib.hid e1
  have e2H := Lib.hid e2
  clear e1 e2 h2 hTT hTH
  go_wp2_with fail
  refine ht.mono ?_
  clear ht
  rintro e w2 ⟨rfl, hA2, hg2⟩
  go_wp2
  go_ret
  exact ⟨ret_str e1H.out, ⟨_, _, e2H.out, by omega, hA2⟩, grown_trans h5 hg2⟩

end Go.Proofs.Ytjjmhkafhbeabaa.Oct
