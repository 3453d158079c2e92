/-
  The contracts of the document's Spent and Same.
-/
import Derived.Test.YtphpkcndaifoiaaWhenRefTimes
import Derived.Test.YtphpkcndaifoiaaWhenSpent
namespace Go.Proofs.Ytphpkcndaifoiaa.When
open Go.RowKit Go.Sort Go.Proofs.Ytphpkcndaifoiaa.Mem Go.Proofs.Ytphpkcndaifoiaa.Route
set_option linter.unusedVariables false

set_option maxRecDepth 100000 in
set_option maxHeartbeats 4000000 in
theorem refSpent_any (v : Vh) (vl vt : Value) (l : List (Int × Int)) (t : List Rq) (hl : l.length ≤ 1000000) (hnum : Nums l) (w : World) (hL : Row w.heap.size w vl l) (hT : Rqs w.heap.size w vt t) :
    Calls Try.prog 12 #[.agg #[.int .i64 v.hx, .int .i64 v.hy, .int .i64 v.cp, .int .i64 v.st, .int .i64 v.en], vl, vt] w fun e w' =>
      e = .returned (.tuple #[.int .i64 (wayT v l t), .int .i64 (waitT v l t), .int .i64 (servT v l t), .int .i64 (errT v l t)]) ∧ Below w.heap.size w w' := by
  have hb0 : Below w.heap.size w (w.alloc (.cells #[.int .i64 v.hx, .int .i64 v.hy, .int .i64 v.cp, .int .i64 v.st, .int .i64 v.en] 30)) := (Below.refl _ _).alloc (Nat.le_refl _) _
  have hc := refTimes_any v vl vt l t hl hnum _ (hL.on hb0) (hT.on hb0)
  have hP := At.new w 30 #[.int .i64 v.hx, .int .i64 v.hy, .int .i64 v.cp, .int .i64 v.st, .int .i64 v.en]
  obtain ⟨xl, Nl, capl, rfl, hNl, hl0, hlc1, hlc2⟩ := hL.opened
  obtain ⟨xt, Nt, capt, rfl, hNt0, htc1, htc2, ht0⟩ := hT.opened
  unfold maxLen at hlc2 htc2
  clear hL hT hNt0 ht0 hl hnum
  obtain ⟨E, hE⟩ : ∃ E, errT v l t = E := ⟨_, rfl⟩
  rw [hE] at hc ⊢
  have hE' := Lib.hid hE
  clear hE
  obtain ⟨H, hH⟩ : ∃ H, homeT v l t = H := ⟨_, rfl⟩
  rw [hH] at hc
  have hH' := Lib.hid hH
  clear hH
  go_enter Try.func12, Try.ntmps12
  go_wp2_with fail
  refine hc.mono ?_
  clear hc
  rintro e w1 ⟨⟨u, rfl, hu⟩, hb1⟩
  have hB := hb0.trans (hb1.mono hb0.size)
  have hP1 := hP.keep hb1 hP.inside
  clear hb0 hb1 hP
  obtain ⟨x, N, cap, rfl, hN0, hc1, hc2, hx⟩ := hu.opened
  unfold maxLen at hc2
  cases he0 : (E == 0)
  · have he1 : (E != 0) = true := by simpa using he0
    have hw : Hid (wayT v l t = 0 ∧ waitT v l t = 0 ∧ servT v l t = 0) := Lib.hid (by
      have h1 : errT v l t ≠ 0 := by rw [hE'.out]; simpa using he0
      unfold wayT waitT servT
      rw [if_neg h1, timesL_no h1]
      exact ⟨rfl, rfl, rfl⟩)
    clear hu hN0 hx
    go_wp2
    refine bodyPost_ret (v := .tuple #[.int .i64 0, .int .i64 0, .int .i64 0, .int .i64 E]) (by simp [results, Try.results12, go_sem]) rfl ?_
    exact ⟨ret_sp hw.out.1.symm hw.out.2.1.symm hw.out.2.2.symm rfl, hB⟩
  · have he1 : (E != 0) = false := by simpa using he0
    have hz : errT v l t = 0 := by rw [hE'.out]; simpa using he0
    obtain ⟨ho1, ho2, ho3, ho4⟩ := times_ok (errT_zero hz).1
    have hHe : H = endT v l t := by rw [← hH'.out]; exact homeT_ok hz
    have hF : Hid (waitT v l t = waitS (rowT v l t) ∧ servT v l t = servS (rowT v l t) ∧ wayT v l t = endT v l t - v.st - waitS (rowT v l t) - servS (rowT v l t)) := Lib.hid (by
      unfold waitT servT wayT
      rw [timesL_ok hz, if_pos hz]
      exact ⟨rfl, rfl, rfl⟩)
    rw [timesL_ok hz] at hu hN0
    have hlen := rowT_length v l t
    obtain ⟨R, hR⟩ : ∃ R, rowT v l t = R := ⟨_, rfl⟩
    rw [hR] at hu hN0 ho1 hlen hF
    rw [← hHe] at hF ho2
    have hN16 : N ≤ 16 := by omega
    have hF' := hF
    have hR' := Lib.hid hR
    have hN := Lib.hid hN0
    have hok := Lib.hid ho1
    have hu' := Lib.hid hu
    have hEz : Hid (E = 0) := Lib.hid (by simpa using he0)
    have p2 := hP1.cell 3
    have hPs := hP1.inside
    simp at p2
    have hst1 : 0 ≤ v.st := ho4.1
    have hst2 : v.st ≤ 1048576 := ho4.2
    have hh1 : 0 ≤ H := ho2.1
    have hh2 : H ≤ 3000000 := ho2.2
    have hBs := hB.size
    clear hu hN0 ho1 hlen hR hHe hF hx hz ho2 ho3 ho4
    go_wp2
    go_loopw [13, 14, 15] (fun b c i wr => ∃ k : Nat, i = .int .i64 k ∧ k ≤ N ∧ b = .int .i64 (waitS (R.take k)) ∧ c = .int .i64 (servS (R.take k)) ∧ Below w1.heap.size w1 wr) (fun _ _ i _ => N - (intOf i).toNat)
    case atStart => exact ⟨0, rfl, Nat.zero_le _, rfl, rfl, Below.refl _ _⟩
    case round =>
      obtain ⟨k, rfl, hk, rfl, rfl, hbw⟩ := hrel
      obtain ⟨⟨b1, b2⟩, ⟨b3, b4⟩, _, _, _⟩ := sums_bd (R.take k) (fun y hy => hok.out y (List.mem_of_mem_take hy)) v.st hst1 (by omega)
      have hlk : ((R.take k).length : Int) ≤ 16 := by rw [List.length_take]; omega
      by_cases hlt : k < N
      · obtain ⟨y, hy⟩ := tm_get hN.out hlt
        obtain ⟨⟨y1, y2⟩, ⟨y3, y4⟩, y5, y6⟩ := hok.out y (List.mem_of_getElem? hy)
        obtain ⟨g, o, rfl, hg, c0, c1, c2⟩ := Tms.at (hu'.out.keep hbw (Nat.le_refl _)) hy
        have hT1 : Hid (waitS (R.take (k + 1)) = waitS (R.take k) + y.be - y.ar ∧ servS (R.take (k + 1)) = servS (R.take k) + y.lv - y.be) :=
          Lib.hid (by rw [tm_take hy, waitS_snoc, servS_snoc]; omega)
        clear hy
        generalize waitS (R.take k) = A2 at *
        generalize servS (R.take k) = A3 at *
        have hAA1 : -48000000 ≤ A2 := by omega
        have hAA2 : A2 ≤ 48000000 := by omega
        have hAA3 : -48000000 ≤ A3 := by omega
        have hAA4 : A3 ≤ 48000000 := by omega
        clear b1 b2 b3 b4 hlk
        go_upto_region 8 with fail
        go_quiet (fail)
        go_upto_region 9 with fail
        go_quiet (fail)
        go_wp2
        go_roundw
        case rel =>
          refine ⟨k + 1, by go_num, hlt, ?_, ?_, ?_⟩
          · rw [hT1.out.1]
          · rw [hT1.out.2]
          · exact Below.trans hbw ⟨rfl, rfl, rfl, Nat.le_refl _, fun _ _ => rfl⟩
        case measure => simp [intOf]; omega
      · obtain rfl : k = N := by omega
        have he : R.take k = R := by rw [← hN.out, List.take_length]
        rw [he] at b1 b2 b3 b4 hlk ⊢
        have hfin : Hid (waitT v l t = waitS R ∧ servT v l t = servS R ∧ wayT v l t = H - v.st - waitS R - servS R) := Lib.hid ⟨hF'.out.1, hF'.out.2.1, hF'.out.2.2⟩
        have hBB := hB.trans (hbw.mono hB.size)
        have hP2 := hP1.keep hbw hPs
        have p2' := hP2.cell 3
        have hPs2 := hP2.inside
        simp at p2'
        clear he p2 hP2
        generalize waitS R = A2 at *
        generalize servS R = A3 at *
        go_wp2
        refine bodyPost_ret (v := .tuple #[.int .i64 (H - v.st - A2 - A3), .int .i64 A2, .int .i64 A3, .int .i64 0]) (by simp [results, Try.results12, go_sem]) rfl ?_
        exact ⟨ret_sp hfin.out.2.2.symm hfin.out.1.symm hfin.out.2.1.symm hEz.out.symm, hBB⟩

/-! ### Same -/

theorem same_len {a b : List Tm} (h : a.length ≠ b.length) : decide (a = b) = false := by
  rw [decide_eq_false_iff_not]
  intro e
  exact h (by rw [e])
theorem same_no {a b : List Tm} {k : Nat} {x y : Tm} (ha : a[k]? = some x) (hb : b[k]? = some y) (h : x ≠ y) : decide (a = b) = false := by
  rw [decide_eq_false_iff_not]
  intro e
  rw [e, hb] at ha
  cases ha
  exact h rfl
theorem same_all {a b : List Tm} {N : Nat} (ha : a.length = N) (hb : b.length = N) (h : a.take N = b.take N) : decide (a = b) = true := by
  rw [decide_eq_true_iff]
  rw [← ha, List.take_length, ha, ← hb, List.take_length] at h
  exact h

set_option maxRecDepth 100000 in
set_option maxHeartbeats 1000000 in
theorem Same_any (va vb : Value) (a b : List Tm) (w : World) (hA : Tms w.heap.size w va a) (hB : Tms w.heap.size w vb b) :
    Calls Try.prog 10 #[va, vb] w fun e w' => e = .returned (.bool (decide (a = b))) ∧ Below w.heap.size w w' := by
  obtain ⟨x, N, cap, rfl, hN0, hc1, hc2, hx⟩ := hA.opened
  obtain ⟨y, M, cbp, rfl, hM0, hd1, hd2, hy⟩ := hB.opened
  unfold maxLen at hc2 hd2
  have hN := Lib.hid hN0
  have hM := Lib.hid hM0
  have hA' := Lib.hid hA
  have hB' := Lib.hid hB
  clear hN0 hM0 hA hB hx hy
  by_cases hl : N = M
  · subst hl
    go_enter Try.func10, Try.ntmps10
    go_wp2
    go_loopw [5] (fun i wr => ∃ k : Nat, i = .int .i64 k ∧ k ≤ N ∧ a.take k = b.take k ∧ Below w.heap.size w wr) (fun i _ => N - (intOf i).toNat)
    case atStart => exact ⟨0, rfl, Nat.zero_le _, rfl, Below.refl _ _⟩
    case round =>
      obtain ⟨k, rfl, hk, htk, hbw⟩ := hrel
      by_cases hlt : k < N
      · obtain ⟨p, hp⟩ := tm_get hN.out hlt
        obtain ⟨q, hq⟩ := tm_get hM.out hlt
        obtain ⟨g, o, rfl, hg, c0, c1, c2⟩ := Tms.at (hA'.out.keep hbw (Nat.le_refl _)) hp
        obtain ⟨g2, o2, rfl, hg2, d0, d1, d2⟩ := Tms.at (hB'.out.keep hbw (Nat.le_refl _)) hq
        have hst := Lib.hid htk
        have hno : Hid (p ≠ q → decide (a = b) = false) := Lib.hid (same_no hp hq)
        have hyes : Hid (p = q → a.take (k + 1) = b.take (k + 1)) := Lib.hid (fun e => by rw [tm_take hp, tm_take hq, htk, e])
        clear htk hp hq
        cases h1 : (p.ar == q.ar)
        · skip
          go_upto_region 6 with fail
          go_quiet (fail)
          go_wp2
          go_ret
          exact ⟨Route.ret_bool (hno.out (by intro e; rw [e] at h1; simp at h1)).symm, Below.trans hbw ⟨rfl, rfl, rfl, Nat.le_refl _, fun _ _ => rfl⟩⟩
        · cases h2 : (p.be == q.be)
          · skip
            go_upto_region 6 with fail
            go_quiet (fail)
            go_wp2
            go_ret
            exact ⟨Route.ret_bool (hno.out (by intro e; rw [e] at h2; simp at h2)).symm, Below.trans hbw ⟨rfl, rfl, rfl, Nat.le_refl _, fun _ _ => rfl⟩⟩
          · cases h3 : (p.lv == q.lv)
            · skip
              go_upto_region 6 with fail
              go_quiet (fail)
              go_wp2
              go_ret
              exact ⟨Route.ret_bool (hno.out (by intro e; rw [e] at h3; simp at h3)).symm, Below.trans hbw ⟨rfl, rfl, rfl, Nat.le_refl _, fun _ _ => rfl⟩⟩
            · go_upto_region 6 with fail
              go_quiet (fail)
              go_wp2
              go_roundw
              case rel => exact ⟨k + 1, by go_num, hlt, hyes.out (by cases p; cases q; simp at h1 h2 h3; simp [h1, h2, h3]), Below.trans hbw ⟨rfl, rfl, rfl, Nat.le_refl _, fun _ _ => rfl⟩⟩
              case measure => simp [intOf]; omega
      · obtain rfl : k = N := by omega
        have hr := Lib.hid (same_all hN.out hM.out htk)
        clear htk
        go_wp2
        go_ret
        exact ⟨Route.ret_bool hr.out.symm, hbw⟩
  · have hr := Lib.hid (same_len (a := a) (b := b) (by rw [hN.out, hM.out]; exact hl))
    have hl1 : ((N : Int) == (M : Int)) = false := by simp; omega
    have hl2 : ((N : Int) != (M : Int)) = true := by simp; omega
    go_enter Try.func10, Try.ntmps10
    go_wp2
    go_ret
    exact ⟨Route.ret_bool hr.out.symm, Below.refl _ _⟩

end Go.Proofs.Ytphpkcndaifoiaa.When
