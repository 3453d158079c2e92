import Derived.Test.YthjdacbgcpldjaaDoorPkWhenTrip
import Derived.Test.YthjdacbgcpldjaaDoorPkInsIdx
import Derived.Test.YthjdacbgcpldjaaDoorPkWindowRef
import Derived.Test.YthjdacbgcpldjaaDoorPkInsWay

/-
  The contracts of the document's Wrong and Way.
-/
namespace Go.Proofs.YthjdacbgcpldjaaDoor.Ins
open Go.RowKit Go.Sort Go.Proofs.YthjdacbgcpldjaaDoor.Mem Go.Proofs.YthjdacbgcpldjaaDoor.Route Go.Proofs.YthjdacbgcpldjaaDoor.When Go.Proofs.YthjdacbgcpldjaaDoor.Load
set_option linter.unusedVariables false

theorem noR_snoc_no {r : Int} {l : List (Int × Int)} {k : Nat} {s : Int × Int} (h : l[k]? = some s) (hr : s.1 ≠ r) (h0 : noR r (l.take k) = true) : noR r (l.take (k + 1)) = true := by
  rw [takeA h, noR_append, h0]
  simp [noR, hr]
theorem noR_hit {r : Int} {l : List (Int × Int)} {k : Nat} {s : Int × Int} (h : l[k]? = some s) (hr : s.1 = r) : noR r l = false := by
  cases e : noR r l
  · rfl
  · exact absurd hr (noR_iff.1 e s (List.mem_of_getElem? h))

set_option maxRecDepth 100000 in
set_option maxHeartbeats 4000000 in
theorem refWrong_any (v : Vh) (vl vt : Value) (l : List (Int × Int)) (t : List Rq) (hl : l.length ≤ 1000000) (hnum : Nums l) (r i j : Int) (w : World) (hL : Row w.heap.size w vl l) (hT : Rqs w.heap.size w vt t) :
    Calls Tryd.prog 48 #[.agg #[.int .i64 v.hx, .int .i64 v.hy, .int .i64 v.cp, .int .i64 v.st, .int .i64 v.en], vl, vt, .int .i64 r, .int .i64 i, .int .i64 j] w fun e w' =>
      e = .returned (.int .i64 (withE v l t r i j)) ∧ Below w.heap.size w w' := by
  obtain ⟨w0, hw0⟩ : ∃ w0, w.alloc (.cells #[.int .i64 v.hx, .int .i64 v.hy, .int .i64 v.cp, .int .i64 v.st, .int .i64 v.en] 28) = w0 := ⟨_, rfl⟩
  obtain ⟨q, hq⟩ : ∃ q, w.heap.size = q := ⟨_, rfl⟩
  have hB0 : Below q w w0 := by rw [← hw0]; exact (Below.refl _ _).alloc (by omega) _
  have hP : At w0 q 28 #[.int .i64 v.hx, .int .i64 v.hy, .int .i64 v.cp, .int .i64 v.st, .int .i64 v.en] := by rw [← hw0]; exact At.new_ _ _ _ hq.symm
  rw [hq] at hL hT
  have hs0 : q < w0.heap.size := hP.inside
  have hTi := refTimes_any v vl vt l t hl hnum w0 ((hL.keep hB0 (Nat.le_refl _)).more (by omega)) ((hT.keep hB0 (Nat.le_refl _)).more (by omega))
  obtain ⟨xl, Nl, capl, rfl, hNl, hl0, hlc1, hlc2⟩ := hL.opened
  obtain ⟨xt, Nt, capt, rfl, hNt0, htc1, htc2, ht0⟩ := hT.opened
  have hNt := Lib.hid hNt0
  have hL' := Lib.hid hL
  rw [hNl.out] at hl
  have p0 := hP.cell 0
  have p1 := hP.cell 1
  have p2 := hP.cell 2
  have p3 := hP.cell 3
  have p4 := hP.cell 4
  simp at p0 p1 p2 p3 p4
  have hB0' := Lib.hid hB0
  have hq' := Lib.hid hq
  have hw0' := Lib.hid hw0
  unfold maxLen at hlc2 htc2
  clear hL hT hNt0 ht0 hl0 hnum hP hB0 hq hw0
  have fin : ∀ w', Below q w w' → Below w.heap.size w w' := fun w' h => by rw [hq'.out]; exact h
  have fin' := Lib.hid fin
  clear fin
  by_cases h1 : r < 0
  · have he := Lib.hid (withE_req (v := v) (l := l) (t := t) (r := r) (i := i) (j := j) (by simp [inT]; omega))
    clear hTi
    go_enter Tryd.func48, Tryd.ntmps48
    go_wp2
    go_ret
    exact ⟨Route.ret_int he.out.symm, by rw [hw0'.out]; exact fin'.out _ hB0'.out⟩
  by_cases h2 : (Nt : Int) ≤ r
  · have he := Lib.hid (withE_req (v := v) (l := l) (t := t) (r := r) (i := i) (j := j) (by have := hNt.out; simp [inT]; omega))
    clear hTi
    go_enter Tryd.func48, Tryd.ntmps48
    go_wp2
    go_ret
    exact ⟨Route.ret_int he.out.symm, by rw [hw0'.out]; exact fin'.out _ hB0'.out⟩
  have hin : Hid (inT t r = true) := Lib.hid (inT_iff.2 ⟨by omega, by rw [hNt.out]; omega⟩)
  have hTi' := Lib.hid hTi
  have hpp := Lib.hid (And.intro p0 (And.intro p1 (And.intro p2 (And.intro p3 p4))))
  clear hTi p0 p1 p2 p3 p4
  go_enter Tryd.func48, Tryd.ntmps48
  go_wp2
  try simp only [hq'.out]
  try rw [hw0'.out]
  go_loopw [13] (fun c wr => ∃ k : Nat, k ≤ Nl ∧ c = .int .i64 k ∧ Hid (noR r (l.take k) = true) ∧ wr = w0)
    (fun c _ => Nl - (intOf c).toNat)
  case atStart => exact ⟨0, Nat.zero_le _, rfl, Lib.hid (by simp [noR]), rfl⟩
  case round =>
    obtain ⟨k, hk, rfl, hno, rfl⟩ := hrel
    by_cases hlt : k < Nl
    · obtain ⟨⟨s1, s2⟩, hs⟩ : ∃ s, l[k]? = some s := ⟨l[k]'(by rw [hNl.out]; exact hlt), List.getElem?_eq_getElem _⟩
      obtain ⟨g, o, rfl, hg, e1, e2⟩ := Row.stop (hL'.out.keep hB0'.out (Nat.le_refl _)) hs
      simp at e1 e2
      have hNg : Hid (k + 1 ≤ Nl) := Lib.hid hlt
      cases he : (s1 == r)
      · have hn2 : Hid (noR r (l.take (k + 1)) = true) := Lib.hid (noR_snoc_no hs (by simpa using he) hno.out)
        clear hs hno
        go_wp2
        go_roundw
        case rel => exact ⟨k + 1, hNg.out, by go_num, hn2, by first | trivial | rfl⟩
        case measure => simp [intOf]; omega
      · have hee := Lib.hid (withE_req (v := v) (l := l) (t := t) (r := r) (i := i) (j := j) (by rw [noR_hit hs (by simpa using he), Bool.and_false]))
        clear hs hno
        go_wp2
        go_ret
        exact ⟨Route.ret_int hee.out.symm, fin'.out _ hB0'.out⟩
    · obtain rfl : k = Nl := by omega
      have hn : l.take k = l := by rw [← hNl.out, List.take_length]
      rw [hn] at hno
      have hto : Hid ((inT t r && noR r l) = true) := Lib.hid (by rw [hin.out, hno.out]; rfl)
      obtain ⟨p0, p1, p2, p3, p4⟩ := hpp.out
      have hTi := hTi'.out
      obtain ⟨E, hE⟩ : ∃ E, errT v l t = E := ⟨_, rfl⟩
      rw [hE] at hTi
      have hE' := Lib.hid hE
      clear hn hno hE
      go_wp2_with fail
      refine hTi.mono ?_
      clear hTi p0 p1 p2 p3 p4
      rintro e w2 ⟨⟨u, rfl, hu⟩, hb2⟩
      have hB2 := Lib.hid (hB0'.out.trans (hb2.mono (by omega : q ≤ wr.heap.size)))
      obtain ⟨xu, Nu, cu, rfl, -⟩ := hu.opened
      clear hu hb2
      cases he0 : (E == 0)
      · have he1 : (E != 0) = true := by simpa using he0
        have he := Lib.hid (withE_err (i := i) (j := j) hto.out (by rw [hE'.out]; simpa using he0))
        rw [hE'.out] at he
        go_wp2
        go_ret
        exact ⟨Route.ret_int he.out.symm, fin'.out _ hB2.out⟩
      have he1 : (E != 0) = false := by simpa using he0
      have hz : Hid (errT v l t = 0) := Lib.hid (by rw [hE'.out]; simpa using he0)
      by_cases h3 : 14 < k
      · have he := Lib.hid (withE_count (i := i) (j := j) hto.out hz.out (by rw [hNl.out]; exact h3))
        have h3i : (14 : Int) < (k : Int) := by omega
        go_wp2
        go_ret
        exact ⟨Route.ret_int he.out.symm, fin'.out _ hB2.out⟩
      have h3' : Hid (¬ 14 < l.length) := Lib.hid (by rw [hNl.out]; exact h3)
      have hpl : Hid (∀ b, placesB k i j = b → withE v l t r i j = if b then 0 else 8) := Lib.hid (fun b hb => by
        cases b
        · exact withE_place hto.out hz.out h3'.out (by rw [hNl.out]; exact hb)
        · exact withE_ok hto.out hz.out h3'.out (by rw [hNl.out]; exact hb))
      have h3i : ¬ (14 : Int) < (k : Int) := by omega
      by_cases i1 : i < 0
      · have he : Hid (withE v l t r i j = 8) := Lib.hid (hpl.out false (by simp [placesB]; omega))
        go_wp2
        go_ret
        exact ⟨Route.ret_int he.out.symm, fin'.out _ hB2.out⟩
      by_cases i2 : j < i
      · have he : Hid (withE v l t r i j = 8) := Lib.hid (hpl.out false (by simp [placesB]; omega))
        go_wp2
        go_ret
        exact ⟨Route.ret_int he.out.symm, fin'.out _ hB2.out⟩
      by_cases i3 : (k : Int) < j
      · have he : Hid (withE v l t r i j = 8) := Lib.hid (hpl.out false (by simp [placesB]; omega))
        go_wp2
        go_ret
        exact ⟨Route.ret_int he.out.symm, fin'.out _ hB2.out⟩
      have he : Hid (withE v l t r i j = 0) := Lib.hid (hpl.out true (by simp [placesB]; omega))
      go_wp2
      go_ret
      exact ⟨Route.ret_int he.out.symm, fin'.out _ hB2.out⟩

end Go.Proofs.YthjdacbgcpldjaaDoor.Ins

/-
  The contract of the document's Way.
-/
namespace Go.Proofs.YthjdacbgcpldjaaDoor.Ins
open Go.RowKit Go.Sort Go.Proofs.YthjdacbgcpldjaaDoor.Place Go.Proofs.YthjdacbgcpldjaaDoor.Mem Go.Proofs.YthjdacbgcpldjaaDoor.Route Go.Proofs.YthjdacbgcpldjaaDoor.When Go.Proofs.YthjdacbgcpldjaaDoor.Load
set_option linter.unusedVariables false

set_option maxRecDepth 100000 in
set_option maxHeartbeats 4000000 in
theorem refWay_any (v : Vh) (vl vt : Value) (l : List (Int × Int)) (t : List Rq) (hl : l.length ≤ 900) (w : World) (hL : Row w.heap.size w vl l) (hT : Rqs w.heap.size w vt t) :
    Calls Tryd.prog 52 #[.agg #[.int .i64 v.hx, .int .i64 v.hy, .int .i64 v.cp, .int .i64 v.st, .int .i64 v.en], vl, vt] w fun e w' => e = .returned (.int .i64 (wayO v l t)) ∧ Below w.heap.size w w' := by
  obtain ⟨xl, N, capl, rfl, hN', hl0, hlc1, hlc2⟩ := hL.opened
  obtain ⟨xt, Nt, capt, rfl, hNt0, htc1, htc2, ht0⟩ := hT.opened
  obtain ⟨q, hq⟩ : ∃ q, w.heap.size = q := ⟨_, rfl⟩
  obtain ⟨w0, hw0⟩ : ∃ w0, (w.alloc (.cells #[.int .i64 v.hx, .int .i64 v.hy, .int .i64 v.cp, .int .i64 v.st, .int .i64 v.en] 28)).alloc (.cells #[.int .i64 v.hx, .int .i64 v.hy] 26) = w0 := ⟨_, rfl⟩
  have hB0 : Below q w w0 := by rw [← hw0]; exact ((Below.refl _ _).alloc (by omega) _).alloc (by simp; omega) _
  have hP : At w0 q 28 #[.int .i64 v.hx, .int .i64 v.hy, .int .i64 v.cp, .int .i64 v.st, .int .i64 v.en] := by rw [← hw0]; exact (At.new_ _ _ _ hq.symm).alloc _
  have hA0 : At w0 (q + 1) 26 #[.int .i64 v.hx, .int .i64 v.hy] := by rw [← hw0]; exact At.new_ _ _ _ (by simp [hq])
  rw [hq] at hL hT
  have hL' := Lib.hid hL
  have hT' := Lib.hid hT
  rw [hN'.out] at hl
  have hq' := Lib.hid hq
  have hw0' := Lib.hid hw0
  unfold maxLen at hlc2
  clear hL hT hl0 hNt0 ht0 htc1 htc2 hq hw0
  go_enter Tryd.func52, Tryd.ntmps52
  go_wp2
  try simp only [hq'.out]
  try rw [hw0'.out]
  go_loopw [8, 9] (fun m i wr => ∃ (k : Nat) (ms : Int) (lx ly : Int), k ≤ N ∧ m = .int .i64 ms ∧ i = .int .i64 k ∧ Hid (ms = wayD (v.hx, v.hy) ((spotsL t l).take k)) ∧ Hid ((lx, ly) = lastD (v.hx, v.hy) ((spotsL t l).take k)) ∧ At wr (q + 1) 26 #[.int .i64 lx, .int .i64 ly] ∧ At wr q 28 #[.int .i64 v.hx, .int .i64 v.hy, .int .i64 v.cp, .int .i64 v.st, .int .i64 v.en] ∧ Below q w wr)
    (fun _ i _ => N - (intOf i).toNat)
  case atStart => exact ⟨0, 0, v.hx, v.hy, Nat.zero_le _, rfl, rfl, Lib.hid (by simp [wayD]), Lib.hid (by simp [lastD]), hA0, hP, hB0⟩
  case round =>
    obtain ⟨k, ms, lx, ly, hk, rfl, rfl, hms, hla, hA, hV, hbw⟩ := hrel
    clear hA0 hP hB0
    have hsz : q + 1 < wr.heap.size := hA.inside
    have hbd := wayD_bd ((spotsL t l).take k) (v.hx, v.hy)
    rw [← hms.out] at hbd
    have hbk : ((spotsL t l).take k).length ≤ 900 := by rw [List.length_take]; omega
    have hm1 : 0 ≤ ms ∧ ms ≤ 2046000 := by omega
    by_cases hlt : k < N
    · obtain ⟨⟨s1, s2⟩, hs⟩ : ∃ s, l[k]? = some s := ⟨l[k]'(by rw [hN'.out]; exact hlt), List.getElem?_eq_getElem _⟩
      obtain ⟨g, o, rfl, hg, e1, e2⟩ := Row.stop (hL'.out.keep hbw (Nat.le_refl _)) hs
      have hd := wayD_take (spotsL_get (t := t) hs) (v.hx, v.hy)
      rw [← hms.out, ← hla.out] at hd
      have hNg : Hid (k + 1 ≤ N) := Lib.hid hlt
      have hcall := refPlace_any s1 s2 _ t wr ((hT'.out.keep hbw (Nat.le_refl _)).more (by omega))
      generalize visV t (s1, s2) = x at *
      generalize visB t (s1, s2) = bb at *
      obtain ⟨b1, b2, x3, x4, x5⟩ := x
      simp only [spotV] at hd
      simp only at hcall
      have hbb := Order.distV_bd (lx, ly) (b1, b2)
      obtain ⟨D, hD⟩ : ∃ D, distV (lx, ly) (b1, b2) = D := ⟨_, rfl⟩
      rw [hD] at hbb hd
      have hD' := Lib.hid hD
      have hd' := Lib.hid hd
      simp at e1 e2
      have hA' := Lib.hid hA
      have hV' := Lib.hid hV
      have hbw' := Lib.hid hbw
      clear hd hms hla hbd hbk hs hD hA hV hbw
      go_wp2_with fail
      refine hcall.mono ?_
      clear hcall e1 e2
      rintro e w1 ⟨rfl, hb1⟩
      obtain ⟨w2, hw2⟩ : ∃ w2, w1.alloc (.cells #[.int .i64 b1, .int .i64 b2] 26) = w2 := ⟨_, rfl⟩
      have hb2 : Below w1.heap.size w1 w2 := by rw [← hw2]; exact (Below.refl _ _).alloc (Nat.le_refl _) _
      have hX : At w2 w1.heap.size 26 #[.int .i64 b1, .int .i64 b2] := by rw [← hw2]; exact At.new _ _ _
      have hA1 := hA'.out.keep hb1 hsz
      have hV1 := hV'.out.keep hb1 (by omega)
      have hs1 : q + 1 < w1.heap.size := hA1.inside
      have hA2 := hA1.keep hb2 hs1
      have hV2 := hV1.keep hb2 (by omega)
      have hB2 := Lib.hid ((hbw'.out.trans (hb1.mono (by omega : q ≤ wr.heap.size))).trans (hb2.mono (by omega : q ≤ w1.heap.size)))
      have hcall := refDist_any lx ly b1 b2 w2
      rw [hD'.out] at hcall
      have a0 := hA2.cell 0
      have a1 := hA2.cell 1
      have x0 := hX.cell 0
      have x1 := hX.cell 1
      simp at a0 a1 x0 x1
      have hxs := hX.inside
      have hs2 := hA2.inside
      have hA2' := Lib.hid hA2
      have hV2' := Lib.hid hV2
      have hX' := Lib.hid hX
      clear hb1 hb2 hX hA1 hV1 hA2 hV2
      go_wp2_with fail
      try simp only [hw2]
      refine hcall.mono ?_
      clear hcall a0 a1 x0 x1 hw2
      rintro e w3 ⟨rfl, hb3⟩
      have hA3 := hA2'.out.keep hb3 hs2
      have hX3 := hX'.out.keep hb3 hxs
      have hV3 := hV2'.out.keep hb3 (by omega)
      have hB3 := hB2.out.trans (hb3.mono (by omega : q ≤ w2.heap.size))
      have x0 := hX3.cell 0
      have x1 := hX3.cell 1
      have a0 := hA3.cell 0
      have a1 := hA3.cell 1
      have af := hA3.free
      have hs3 := hA3.inside
      simp at x0 x1 a0 a1
      have hA3' := Lib.hid hA3
      have hV3' := Lib.hid hV3
      have hB3' := Lib.hid hB3
      clear hA3 hX3 hV3 hB3 hb3
      go_wp2
      go_roundw
      case rel =>
        exact ⟨k + 1, ms + D, b1, b2, hNg.out, by go_num, by go_num, Lib.hid hd'.out.1.symm, Lib.hid hd'.out.2.symm, put2 hA3'.out, (hV3'.out.far (by omega) _ _).far (by omega) _ _, (hB3'.out.setCell (by simp) _).setCell (by simp) _⟩
      case measure => simp [intOf]; omega
    · obtain rfl : k = N := by omega
      have he : (spotsL t l).take k = spotsL t l := by rw [← hN'.out, ← spotsL_length t l, List.take_length]
      rw [he] at hms hla
      have hbb := Order.distV_bd (lx, ly) (v.hx, v.hy)
      have hcall := refDist_any lx ly v.hx v.hy wr
      have hfin : Hid (wayO v l t = ms + distV (lx, ly) (v.hx, v.hy)) := Lib.hid (by unfold wayO; rw [wayD_snoc, ← hms.out, ← hla.out])
      obtain ⟨D, hD⟩ : ∃ D, distV (lx, ly) (v.hx, v.hy) = D := ⟨_, rfl⟩
      rw [hD] at hcall hbb hfin
      have a0 := hA.cell 0
      have a1 := hA.cell 1
      have v0 := hV.cell 0
      have v1 := hV.cell 1
      simp at a0 a1 v0 v1
      have hbw' := Lib.hid hbw
      have hvi := hV.inside
      clear he hms hla hbd hbk hD hA hV hbw
      go_wp2_with fail
      refine hcall.mono ?_
      clear hcall a0 a1 v0 v1
      rintro e w1 ⟨rfl, hb1⟩
      have hB1 := Lib.hid (hbw'.out.trans (hb1.mono (by omega : q ≤ wr.heap.size)))
      clear hb1
      go_wp2
      go_ret
      exact ⟨Route.ret_int hfin.out.symm, by first | exact hB1.out | (rw [hq'.out]; exact hB1.out)⟩

end Go.Proofs.YthjdacbgcpldjaaDoor.Ins
