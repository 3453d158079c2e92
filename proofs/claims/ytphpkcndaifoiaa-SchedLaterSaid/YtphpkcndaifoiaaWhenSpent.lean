/-
  The contract of package sched's Spent.
-/
import Derived.Test.YtphpkcndaifoiaaWhenTimes
namespace Go.Proofs.Ytphpkcndaifoiaa.When
open Go.RowKit Go.Proofs.Ytphpkcndaifoiaa.Mem Go.Proofs.Ytphpkcndaifoiaa.Route
set_option linter.unusedVariables false

theorem tm_get {l : List Tm} {k N : Nat} (hN : l.length = N) (hk : k < N) : ∃ x, l[k]? = some x := ⟨l[k]'(by omega), List.getElem?_eq_getElem _⟩
theorem tm_take {l : List Tm} {k : Nat} {x : Tm} (h : l[k]? = some x) : l.take (k + 1) = l.take k ++ [x] := by rw [List.take_add_one, h]; rfl

set_option maxRecDepth 100000 in
set_option maxHeartbeats 4000000 in
theorem Spent_any (v : Vh) (vl vt : Value) (l : List (Int × Int)) (t : List Rq) (hl : l.length ≤ 1000000) (hnum : Nums l) (w : World) (hL : Row w.heap.size w vl l) (hT : Rqs w.heap.size w vt t) :
    Calls Try.prog 11 #[.agg #[.int .i64 v.hx, .int .i64 v.hy, .int .i64 v.cp, .int .i64 v.st, .int .i64 v.en], vl, vt] w fun e w' =>
      e = .returned (.tuple #[.int .i64 (wayT v l t), .int .i64 (waitT v l t), .int .i64 (servT v l t), .int .i64 (errT v l t)]) ∧ Below w.heap.size w w' := by
  have hb0 : Below w.heap.size w (w.alloc (.cells #[.int .i64 v.hx, .int .i64 v.hy, .int .i64 v.cp, .int .i64 v.st, .int .i64 v.en] 30)) := (Below.refl _ _).alloc (Nat.le_refl _) _
  have hc := Times_any v vl vt l t hl hnum _ (hL.on hb0) (hT.on hb0)
  have hP := At.new w 30 #[.int .i64 v.hx, .int .i64 v.hy, .int .i64 v.cp, .int .i64 v.st, .int .i64 v.en]
  obtain ⟨xl, Nl, capl, rfl, hNl, hl0, hlc1, hlc2⟩ := hL.opened
  obtain ⟨xt, Nt, capt, rfl, hNt0, htc1, htc2, ht0⟩ := hT.opened
  unfold maxLen at hlc2 htc2
  clear hL hT hNt0 ht0 hl hnum
  obtain ⟨E, hE⟩ : ∃ E, errT v l t = E := ⟨_, rfl⟩
  rw [hE] at hc ⊢
  have hE' := Lib.hid hE
  clear hE
  obtain ⟨H, hH⟩ : ∃ H, homeT v l t = H := ⟨_, rfl⟩
  rw [hH] at hc
  have hH' := Lib.hid hH
  clear hH
  go_enter Try.func11, Try.ntmps11
  go_wp2_with fail
  refine hc.mono ?_
  clear hc
  rintro e w1 ⟨⟨u, rfl, hu⟩, hb1⟩
  have hB := hb0.trans (hb1.mono hb0.size)
  have hP1 := hP.keep hb1 hP.inside
  clear hb0 hb1 hP
  obtain ⟨x, N, cap, rfl, hN0, hc1, hc2, hx⟩ := hu.opened
  unfold maxLen at hc2
  cases he0 : (E == 0)
  · have he1 : (E != 0) = true := by simpa using he0
    have hw : Hid (wayT v l t = 0 ∧ waitT v l t = 0 ∧ servT v l t = 0) := Lib.hid (by
      have h1 : errT v l t ≠ 0 := by rw [hE'.out]; simpa using he0
      unfold wayT waitT servT
      rw [if_neg h1, timesL_no h1]
      exact ⟨rfl, rfl, rfl⟩)
    clear hu hN0 hx
    go_wp2
    refine bodyPost_ret (v := .tuple #[.int .i64 0, .int .i64 0, .int .i64 0, .int .i64 E]) (by simp [results, Try.results11, go_sem]) rfl ?_
    exact ⟨ret_sp hw.out.1.symm hw.out.2.1.symm hw.out.2.2.symm rfl, hB⟩
  · have he1 : (E != 0) = false := by simpa using he0
    have hz : errT v l t = 0 := by rw [hE'.out]; simpa using he0
    obtain ⟨ho1, ho2, ho3, ho4⟩ := times_ok (errT_zero hz).1
    have hF : Hid (waitT v l t = waitS (rowT v l t) ∧ servT v l t = servS (rowT v l t) ∧ wayT v l t = wayS v.st (rowT v l t) + (endT v l t - leftS v.st (rowT v l t))) := Lib.hid (by
      unfold waitT servT
      rw [timesL_ok hz]
      exact ⟨rfl, rfl, wayT_eq v l t hz⟩)
    have hHe : H = endT v l t := by rw [← hH'.out]; exact homeT_ok hz
    rw [timesL_ok hz] at hu hN0
    have hlen := rowT_length v l t
    obtain ⟨R, hR⟩ : ∃ R, rowT v l t = R := ⟨_, rfl⟩
    rw [hR] at hu hN0 ho1 hlen hF
    rw [← hHe] at hF ho2
    have hN16 : N ≤ 16 := by omega
    have hF' := hF
    have hR' := Lib.hid hR
    have hN := Lib.hid hN0
    have hok := Lib.hid ho1
    have hu' := Lib.hid hu
    have hEz : Hid (E = 0) := Lib.hid (by simpa using he0)
    have p2 := hP1.cell 3
    have hPs := hP1.inside
    simp at p2
    have hst : Hid (0 ≤ v.st ∧ v.st ≤ 1048576) := Lib.hid ho4
    have hh1 : 0 ≤ H := ho2.1
    have hh2 : H ≤ 3000000 := ho2.2
    clear hu hN0 ho1 hlen hR hHe hF hx hz hP1 ho2 ho3 ho4
    go_wp2
    go_loopw [6, 7, 8, 12, 30] (fun a b c d i wr => ∃ k : Nat, i = .int .i64 k ∧ k ≤ N ∧ a = .int .i64 (wayS v.st (R.take k)) ∧ b = .int .i64 (waitS (R.take k)) ∧ c = .int .i64 (servS (R.take k)) ∧ d = .int .i64 (leftS v.st (R.take k)) ∧ Below w1.heap.size w1 wr) (fun _ _ _ _ i _ => N - (intOf i).toNat)
    case atStart => exact ⟨0, rfl, Nat.zero_le _, rfl, rfl, rfl, rfl, Below.refl _ _⟩
    case round =>
      obtain ⟨k, rfl, hk, rfl, rfl, rfl, rfl, hbw⟩ := hrel
      obtain ⟨⟨b1, b2⟩, ⟨b3, b4⟩, ⟨b5, b6⟩, b7, b8⟩ := sums_bd (R.take k) (fun y hy => hok.out y (List.mem_of_mem_take hy)) v.st hst.out.1 (by have := hst.out.2; omega)
      have hlk : ((R.take k).length : Int) ≤ 16 := by rw [List.length_take]; omega
      by_cases hlt : k < N
      · obtain ⟨y, hy⟩ := tm_get hN.out hlt
        obtain ⟨⟨y1, y2⟩, ⟨y3, y4⟩, y5, y6⟩ := hok.out y (List.mem_of_getElem? hy)
        obtain ⟨g, o, rfl, hg, c0, c1, c2⟩ := Tms.at (hu'.out.keep hbw (Nat.le_refl _)) hy
        have hT1 : Hid (wayS v.st (R.take (k + 1)) = wayS v.st (R.take k) + (y.ar - leftS v.st (R.take k)) ∧ waitS (R.take (k + 1)) = waitS (R.take k) + (y.be - y.ar) ∧ servS (R.take (k + 1)) = servS (R.take k) + (y.lv - y.be) ∧ leftS v.st (R.take (k + 1)) = y.lv) :=
          Lib.hid (by rw [tm_take hy]; exact ⟨wayS_snoc _ _ _, waitS_snoc _ _, servS_snoc _ _, leftS_snoc _ _ _⟩)
        clear hy
        generalize wayS v.st (R.take k) = A1 at *
        generalize waitS (R.take k) = A2 at *
        generalize servS (R.take k) = A3 at *
        generalize leftS v.st (R.take k) = A4 at *
        have hbA := hbw.alloc hbw.size (.cells #[.int .i64 y.ar, .int .i64 y.be, .int .i64 y.lv] 53)
        go_wp2
        go_roundw
        case rel =>
          refine ⟨k + 1, by go_num, hlt, ?_, ?_, ?_, ?_, hbA⟩
          · rw [hT1.out.1]
          · rw [hT1.out.2.1]
          · rw [hT1.out.2.2.1]
          · rw [hT1.out.2.2.2]
        case measure => simp [intOf]; omega
      · obtain rfl : k = N := by omega
        have he : R.take k = R := by rw [← hN.out, List.take_length]
        rw [he] at b1 b2 b3 b4 b5 b6 b7 b8 hlk ⊢
        have hfin : Hid (waitT v l t = waitS R ∧ servT v l t = servS R ∧ wayT v l t = wayS v.st R + H - leftS v.st R) := Lib.hid ⟨hF'.out.1, hF'.out.2.1, by rw [hF'.out.2.2]; omega⟩
        have hBB := hB.trans (hbw.mono hB.size)
        clear he
        generalize wayS v.st R = A1 at *
        generalize waitS R = A2 at *
        generalize servS R = A3 at *
        generalize leftS v.st R = A4 at *
        go_wp2
        refine bodyPost_ret (v := .tuple #[.int .i64 (A1 + H - A4), .int .i64 A2, .int .i64 A3, .int .i64 0]) (by simp [results, Try.results11, go_sem]) rfl ?_
        exact ⟨ret_sp hfin.out.2.2.symm hfin.out.1.symm hfin.out.2.1.symm hEz.out.symm, hBB⟩

end Go.Proofs.Ytphpkcndaifoiaa.When
