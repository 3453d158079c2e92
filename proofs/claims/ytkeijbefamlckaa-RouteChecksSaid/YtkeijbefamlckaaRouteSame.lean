/-
  The contracts of 'Same' and 'ints': are both rows alike?
-/
import Derived.Test.YtkeijbefamlckaaRouteRef
namespace Go.Proofs.Ytkeijbefamlckaa.Route
open Go.RowKit Go.Proofs.Ytkeijbefamlckaa.Mem
set_option linter.unusedVariables false

theorem unlike_at {α : Type} [DecidableEq α] {xs ys : List α} {k : Nat} {s t : α} (hs : xs[k]? = some s) (ht : ys[k]? = some t) (h : s ≠ t) : decide (xs = ys) = false := by
  simp only [decide_eq_false_iff_not]
  rintro rfl
  rw [hs] at ht
  cases ht
  exact h rfl
theorem unlike_len {α : Type} [DecidableEq α] {xs ys : List α} (h : xs.length ≠ ys.length) : decide (xs = ys) = false := by
  simp only [decide_eq_false_iff_not]
  rintro rfl
  exact h rfl
theorem alike_all {α : Type} [DecidableEq α] {xs ys : List α} {N : Nat} (h1 : xs.length = N) (h2 : ys.length = N) (h : xs.take N = ys.take N) : decide (xs = ys) = true := by
  rw [← h1, List.take_length, h1, ← h2, List.take_length] at h
  simpa using h
theorem take_getT {α : Type} {l : List α} {k : Nat} {s : α} (h : l[k]? = some s) : l.take (k + 1) = l.take k ++ [s] := by rw [List.take_add_one, h]; rfl
theorem alike_succ {α : Type} {xs ys : List α} {k : Nat} {s t : α} (hs : xs[k]? = some s) (ht : ys[k]? = some t) (h : xs.take k = ys.take k) (e : s = t) : xs.take (k + 1) = ys.take (k + 1) := by
  rw [take_getT hs, take_getT ht, h, e]

set_option maxRecDepth 100000 in
set_option maxHeartbeats 1000000 in
theorem Same_any (sv tv : Value) (xs ys : List (Int × Int)) (hx : xs.length ≤ 140737488351232) (w : World) (hI : Row w.heap.size w sv xs) (hJ : Row w.heap.size w tv ys) :
    Calls Try.prog 20 #[sv, tv] w fun e w' => e = .returned (.bool (decide (xs = ys))) ∧ Below w.heap.size w w' := by
  obtain ⟨x, N, cap, rfl, hN, hx0, hc1, hc2⟩ := hI.opened
  obtain ⟨y, M, cap2, rfl, hM, hy0, hc3, hc4⟩ := hJ.opened
  rw [hN.out] at hx
  have hI' := Lib.hid hI
  have hJ' := Lib.hid hJ
  clear hI hJ
  by_cases hl : N = M
  · subst hl
    go_enter Try.func20, Try.ntmps20
    go_wp2
    go_loopw [5] (fun i wr => ∃ k : Nat, k ≤ N ∧ i = .int .i64 k ∧ Hid (xs.take k = ys.take k) ∧ Below w.heap.size w wr) (fun i _ => N - (intOf i).toNat)
    case atStart => exact ⟨0, by omega, rfl, Lib.hid (by simp), Below.refl _ _⟩
    case round =>
      obtain ⟨k, hk, rfl, hag, hbw⟩ := hrel
      by_cases hlt : k < N
      · obtain ⟨s, hs, _⟩ := drop_get (l := xs) (k := k) (by rw [hN.out]; exact hlt)
        obtain ⟨t, ht, _⟩ := drop_get (l := ys) (k := k) (by rw [hM.out]; exact hlt)
        obtain ⟨g, o, rfl, hg, e1, e2⟩ := Row.stop hI'.out hs
        obtain ⟨g2, o2, rfl, hg2, e3, e4⟩ := Row.stop hJ'.out ht
        have e1 := (hbw.cell (p := ⟨g, o + k * 2, none⟩) hg).trans e1
        have e2 := (hbw.cell (p := ⟨g, o + k * 2 + 1, none⟩) hg).trans e2
        have e3 := (hbw.cell (p := ⟨g2, o2 + k * 2, none⟩) hg2).trans e3
        have e4 := (hbw.cell (p := ⟨g2, o2 + k * 2 + 1, none⟩) hg2).trans e4
        have hno := Lib.hid (unlike_at hs ht)
        have hyes := Lib.hid (alike_succ hs ht hag.out)
        clear hs ht
        obtain ⟨x1, x2⟩ := s
        obtain ⟨y1, y2⟩ := t
        simp at e1 e2 e3 e4
        cases h1 : (x1 == y1)
        · go_wp2
          go_quiet (fail)
          go_wp2
          go_ret
          exact ⟨ret_bool (hno.out (by intro e; cases e; simp at h1)).symm, below_drewN hbw nq⟩
        · cases h2 : (x2 == y2)
          · go_wp2
            go_quiet (fail)
            go_wp2
            go_ret
            exact ⟨ret_bool (hno.out (by intro e; cases e; simp at h2)).symm, below_drewN hbw nq⟩
          · go_wp2
            go_quiet (fail)
            go_wp2
            go_roundw
            case rel => exact ⟨k + 1, by omega, by go_num, Lib.hid (hyes.out (Prod.ext (by simpa using h1) (by simpa using h2))), below_drewN hbw nq⟩
            case measure => simp [intOf]; omega
      · obtain rfl : k = N := by omega
        go_wp2
        go_ret
        exact ⟨ret_bool (alike_all hN.out hM.out hag.out).symm, hbw⟩
  · have hd := Lib.hid (unlike_len (xs := xs) (ys := ys) (by rw [hN.out, hM.out]; exact hl))
    have hl' : ((N : Int) == M) = false := by rw [beq_eq_false_iff_ne]; omega
    go_enter Try.func20, Try.ntmps20
    go_wp2
    go_ret
    exact ⟨ret_bool hd.out.symm, Below.refl _ _⟩

set_option maxRecDepth 100000 in
set_option maxHeartbeats 1000000 in
theorem ints_any (sv tv : Value) (xs ys : List Int) (hx : xs.length ≤ 140737488351232) (w : World) (hI : Ints w.heap.size w sv xs) (hJ : Ints w.heap.size w tv ys) :
    Calls Try.prog 12 #[sv, tv] w fun e w' => e = .returned (.bool (decide (xs = ys))) ∧ Below w.heap.size w w' := by
  obtain ⟨x, N, cap, rfl, hN, hc1, hc2⟩ := hI.opened
  obtain ⟨y, M, cap2, rfl, hM, hc3, hc4⟩ := hJ.opened
  rw [hN.out] at hx
  have hI' := Lib.hid hI
  have hJ' := Lib.hid hJ
  clear hI hJ
  by_cases hl : N = M
  · subst hl
    go_enter Try.func12, Try.ntmps12
    go_wp2
    go_loopw [5] (fun i wr => ∃ k : Nat, k ≤ N ∧ i = .int .i64 k ∧ Hid (xs.take k = ys.take k) ∧ Below w.heap.size w wr) (fun i _ => N - (intOf i).toNat)
    case atStart => exact ⟨0, by omega, rfl, Lib.hid (by simp), Below.refl _ _⟩
    case round =>
      obtain ⟨k, hk, rfl, hag, hbw⟩ := hrel
      by_cases hlt : k < N
      · obtain ⟨s, hs⟩ : ∃ s, xs[k]? = some s := ⟨xs[k]'(by rw [hN.out]; exact hlt), List.getElem?_eq_getElem _⟩
        obtain ⟨t, ht⟩ : ∃ s, ys[k]? = some s := ⟨ys[k]'(by rw [hM.out]; exact hlt), List.getElem?_eq_getElem _⟩
        obtain ⟨g, o, rfl, hg, e1⟩ := Ints.number hI'.out hs
        obtain ⟨g2, o2, rfl, hg2, e3⟩ := Ints.number hJ'.out ht
        have e1 := (hbw.cell (p := ⟨g, o + k, none⟩) hg).trans e1
        have e3 := (hbw.cell (p := ⟨g2, o2 + k, none⟩) hg2).trans e3
        have hno := Lib.hid (unlike_at hs ht)
        have hyes := Lib.hid (alike_succ hs ht hag.out)
        clear hs ht
        cases h1 : (s == t)
        · go_wp2
          go_quiet (fail)
          go_wp2
          go_ret
          exact ⟨ret_bool (hno.out (by simpa using h1)).symm, below_drewN hbw nq⟩
        · go_wp2
          go_quiet (fail)
          go_wp2
          go_roundw
          case rel => exact ⟨k + 1, by omega, by go_num, Lib.hid (hyes.out (by simpa using h1)), below_drewN hbw nq⟩
          case measure => simp [intOf]; omega
      · obtain rfl : k = N := by omega
        go_wp2
        go_ret
        exact ⟨ret_bool (alike_all hN.out hM.out hag.out).symm, hbw⟩
  · have hd := Lib.hid (unlike_len (xs := xs) (ys := ys) (by rw [hN.out, hM.out]; exact hl))
    have hl' : ((N : Int) == M) = false := by rw [beq_eq_false_iff_ne]; omega
    go_enter Try.func12, Try.ntmps12
    go_wp2
    go_ret
    exact ⟨ret_bool hd.out.symm, Below.refl _ _⟩

end Go.Proofs.Ytkeijbefamlckaa.Route
