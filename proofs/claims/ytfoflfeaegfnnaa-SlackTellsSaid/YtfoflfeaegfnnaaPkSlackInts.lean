import Derived.Test.YtfoflfeaegfnnaaPkSlackVis
import Derived.Test.YtfoflfeaegfnnaaPkOrderChk

/-
  The laws' own comparisons: of rows of numbers, and of rows of times.
-/
namespace Go.Proofs.Ytfoflfeaegfnnaa.Slack
open Go.RowKit Go.Proofs.Ytfoflfeaegfnnaa.Mem Go.Proofs.Ytfoflfeaegfnnaa.Route Go.Proofs.Ytfoflfeaegfnnaa.When
set_option linter.unusedVariables false

theorem tm_get2 {l : List Tm} {N k : Nat} (h : l.length = N) (hk : k < N) : ∃ x, l[k]? = some x := ⟨l[k]'(by omega), List.getElem?_eq_getElem _⟩
theorem tm_take2 {l : List Tm} {k : Nat} {x : Tm} (h : l[k]? = some x) : l.take (k + 1) = l.take k ++ [x] := by rw [List.take_add_one, h]; rfl
set_option maxRecDepth 100000 in
set_option maxHeartbeats 1000000 in
theorem ints_any (sv tv : Value) (xs ys : List Int) (hx : xs.length ≤ 140737488351232) (w : World) (hI : Ints w.heap.size w sv xs) (hJ : Ints w.heap.size w tv ys) :
    Calls Try.prog 14 #[sv, tv] w fun e w' => e = .returned (.bool (decide (xs = ys))) ∧ Below w.heap.size w w' := by
  obtain ⟨x, N, cap, rfl, hN, hc1, hc2⟩ := hI.opened
  obtain ⟨y, M, cap2, rfl, hM, hc3, hc4⟩ := hJ.opened
  rw [hN.out] at hx
  have hI' := Lib.hid hI
  have hJ' := Lib.hid hJ
  clear hI hJ
  by_cases hl : N = M
  · subst hl
    go_enter Try.func14, Try.ntmps14
    go_wp2
    go_loopw [5] (fun i wr => ∃ k : Nat, k ≤ N ∧ i = .int .i64 k ∧ Hid (xs.take k = ys.take k) ∧ Below w.heap.size w wr) (fun i _ => N - (intOf i).toNat)
    case atStart => exact ⟨0, by omega, rfl, Lib.hid (by simp), Below.refl _ _⟩
    case round =>
      obtain ⟨k, hk, rfl, hag, hbw⟩ := hrel
      by_cases hlt : k < N
      · obtain ⟨s, hs⟩ : ∃ s, xs[k]? = some s := ⟨xs[k]'(by rw [hN.out]; exact hlt), List.getElem?_eq_getElem _⟩
        obtain ⟨t, ht⟩ : ∃ s, ys[k]? = some s := ⟨ys[k]'(by rw [hM.out]; exact hlt), List.getElem?_eq_getElem _⟩
        obtain ⟨g, o, rfl, hg, e1⟩ := Ints.number hI'.out hs
        obtain ⟨g2, o2, rfl, hg2, e3⟩ := Ints.number hJ'.out ht
        have e1 := (hbw.cell (p := ⟨g, o + k, none⟩) hg).trans e1
        have e3 := (hbw.cell (p := ⟨g2, o2 + k, none⟩) hg2).trans e3
        have hno := Lib.hid (unlike_at hs ht)
        have hyes := Lib.hid (alike_succ hs ht hag.out)
        clear hs ht
        cases h1 : (s == t)
        · go_wp2
          go_quiet (fail)
          go_wp2
          go_ret
          exact ⟨ret_bool (hno.out (by simpa using h1)).symm, Place.below_drewN hbw nq⟩
        · go_wp2
          go_quiet (fail)
          go_wp2
          go_roundw
          case rel => exact ⟨k + 1, by omega, by go_num, Lib.hid (hyes.out (by simpa using h1)), Place.below_drewN hbw nq⟩
          case measure => simp [intOf]; omega
      · obtain rfl : k = N := by omega
        go_wp2
        go_ret
        exact ⟨ret_bool (alike_all hN.out hM.out hag.out).symm, hbw⟩
  · have hd := Lib.hid (unlike_len (xs := xs) (ys := ys) (by rw [hN.out, hM.out]; exact hl))
    have hl' : ((N : Int) == M) = false := by rw [beq_eq_false_iff_ne]; omega
    go_enter Try.func14, Try.ntmps14
    go_wp2
    go_ret
    exact ⟨ret_bool hd.out.symm, Below.refl _ _⟩

theorem same_len {a b : List Tm} (h : a.length ≠ b.length) : decide (a = b) = false := by
  rw [decide_eq_false_iff_not]
  intro e
  exact h (by rw [e])
theorem same_no {a b : List Tm} {k : Nat} {x y : Tm} (ha : a[k]? = some x) (hb : b[k]? = some y) (h : x ≠ y) : decide (a = b) = false := by
  rw [decide_eq_false_iff_not]
  intro e
  rw [e, hb] at ha
  cases ha
  exact h rfl
theorem same_all {a b : List Tm} {N : Nat} (ha : a.length = N) (hb : b.length = N) (h : a.take N = b.take N) : decide (a = b) = true := by
  rw [decide_eq_true_iff]
  rw [← ha, List.take_length, ha, ← hb, List.take_length] at h
  exact h

set_option maxRecDepth 100000 in
set_option maxHeartbeats 1000000 in
theorem Same_any (va vb : Value) (a b : List Tm) (w : World) (hA : Tms w.heap.size w va a) (hB : Tms w.heap.size w vb b) :
    Calls Try.prog 20 #[va, vb] w fun e w' => e = .returned (.bool (decide (a = b))) ∧ Below w.heap.size w w' := by
  obtain ⟨x, N, cap, rfl, hN0, hc1, hc2, hx⟩ := hA.opened
  obtain ⟨y, M, cbp, rfl, hM0, hd1, hd2, hy⟩ := hB.opened
  unfold maxLen at hc2 hd2
  have hN := Lib.hid hN0
  have hM := Lib.hid hM0
  have hA' := Lib.hid hA
  have hB' := Lib.hid hB
  clear hN0 hM0 hA hB hx hy
  by_cases hl : N = M
  · subst hl
    go_enter Try.func20, Try.ntmps20
    go_wp2
    go_loopw [5] (fun i wr => ∃ k : Nat, i = .int .i64 k ∧ k ≤ N ∧ a.take k = b.take k ∧ Below w.heap.size w wr) (fun i _ => N - (intOf i).toNat)
    case atStart => exact ⟨0, rfl, Nat.zero_le _, rfl, Below.refl _ _⟩
    case round =>
      obtain ⟨k, rfl, hk, htk, hbw⟩ := hrel
      by_cases hlt : k < N
      · obtain ⟨p, hp⟩ := tm_get2 hN.out hlt
        obtain ⟨q, hq⟩ := tm_get2 hM.out hlt
        obtain ⟨g, o, rfl, hg, c0, c1, c2⟩ := Tms.at (hA'.out.keep hbw (Nat.le_refl _)) hp
        obtain ⟨g2, o2, rfl, hg2, d0, d1, d2⟩ := Tms.at (hB'.out.keep hbw (Nat.le_refl _)) hq
        have hst := Lib.hid htk
        have hno : Hid (p ≠ q → decide (a = b) = false) := Lib.hid (same_no hp hq)
        have hyes : Hid (p = q → a.take (k + 1) = b.take (k + 1)) := Lib.hid (fun e => by rw [tm_take2 hp, tm_take2 hq, htk, e])
        clear htk hp hq
        cases h1 : (p.ar == q.ar)
        · skip
          go_upto_region 6 with fail
          go_quiet (fail)
          go_wp2
          go_ret
          exact ⟨Route.ret_bool (hno.out (by intro e; rw [e] at h1; simp at h1)).symm, Below.trans hbw ⟨rfl, rfl, rfl, Nat.le_refl _, fun _ _ => rfl⟩⟩
        · cases h2 : (p.be == q.be)
          · skip
            go_upto_region 6 with fail
            go_quiet (fail)
            go_wp2
            go_ret
            exact ⟨Route.ret_bool (hno.out (by intro e; rw [e] at h2; simp at h2)).symm, Below.trans hbw ⟨rfl, rfl, rfl, Nat.le_refl _, fun _ _ => rfl⟩⟩
          · cases h3 : (p.lv == q.lv)
            · skip
              go_upto_region 6 with fail
              go_quiet (fail)
              go_wp2
              go_ret
              exact ⟨Route.ret_bool (hno.out (by intro e; rw [e] at h3; simp at h3)).symm, Below.trans hbw ⟨rfl, rfl, rfl, Nat.le_refl _, fun _ _ => rfl⟩⟩
            · go_upto_region 6 with fail
              go_quiet (fail)
              go_wp2
              go_roundw
              case rel => exact ⟨k + 1, by go_num, hlt, hyes.out (by cases p; cases q; simp at h1 h2 h3; simp [h1, h2, h3]), Below.trans hbw ⟨rfl, rfl, rfl, Nat.le_refl _, fun _ _ => rfl⟩⟩
              case measure => simp [intOf]; omega
      · obtain rfl : k = N := by omega
        have hr := Lib.hid (same_all hN.out hM.out htk)
        clear htk
        go_wp2
        go_ret
        exact ⟨Route.ret_bool hr.out.symm, hbw⟩
  · have hr := Lib.hid (same_len (a := a) (b := b) (by rw [hN.out, hM.out]; exact hl))
    have hl1 : ((N : Int) == (M : Int)) = false := by simp; omega
    have hl2 : ((N : Int) != (M : Int)) = true := by simp; omega
    go_enter Try.func20, Try.ntmps20
    go_wp2
    go_ret
    exact ⟨Route.ret_bool hr.out.symm, Below.refl _ _⟩


end Go.Proofs.Ytfoflfeaegfnnaa.Slack
