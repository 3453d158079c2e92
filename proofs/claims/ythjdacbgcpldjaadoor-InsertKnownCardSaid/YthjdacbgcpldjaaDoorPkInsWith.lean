import Derived.Test.YthjdacbgcpldjaaDoorPkInsIdx
import Derived.Test.YthjdacbgcpldjaaDoorPkRouteWith
import Derived.Test.YthjdacbgcpldjaaDoorPkWhenTimes

/-
  The contract of package insert's with: the route with the request there, the end without it, or the first error.
-/
namespace Go.Proofs.YthjdacbgcpldjaaDoor.Ins
open Go.RowKit Go.Proofs.YthjdacbgcpldjaaDoor.Mem Go.Proofs.YthjdacbgcpldjaaDoor.Route Go.Proofs.YthjdacbgcpldjaaDoor.When Go.Proofs.YthjdacbgcpldjaaDoor.Load
set_option linter.unusedVariables false

theorem ret_w {u u2 : Value} {a b c d : Int} (h0 : u = u2) (h : a = b) (h2 : c = d) : Ending.returned (.tuple #[u, .int .i64 a, .int .i64 c]) = .returned (.tuple #[u2, .int .i64 b, .int .i64 d]) := by rw [h0, h, h2]

/-- What with gives. -/
def WithOk (W : World) (u : Value) (v : Vh) (l : List (Int × Int)) (t : List Rq) (r i j : Int) : Prop :=
  if withE v l t r i j = 0 then Row W.heap.size W u (moreL l r i j) else u = .slice none 0 0
def endW (v : Vh) (l : List (Int × Int)) (t : List Rq) (r i j : Int) : Int := if withE v l t r i j = 0 then homeT v l t else 0
theorem WithOk.no {W : World} {v : Vh} {l : List (Int × Int)} {t : List Rq} {r i j : Int} (h : withE v l t r i j ≠ 0) : WithOk W (.slice none 0 0) v l t r i j := by unfold WithOk; rw [if_neg h]
theorem WithOk.yes {W : World} {u : Value} {v : Vh} {l : List (Int × Int)} {t : List Rq} {r i j : Int} (h : withE v l t r i j = 0) (hr : Row W.heap.size W u (moreL l r i j)) : WithOk W u v l t r i j := by unfold WithOk; rw [if_pos h]; exact hr
theorem endW_no {v : Vh} {l : List (Int × Int)} {t : List Rq} {r i j : Int} (h : withE v l t r i j ≠ 0) : endW v l t r i j = 0 := by unfold endW; rw [if_neg h]
theorem endW_yes {v : Vh} {l : List (Int × Int)} {t : List Rq} {r i j : Int} (h : withE v l t r i j = 0) : endW v l t r i j = homeT v l t := by unfold endW; rw [if_pos h]

set_option maxRecDepth 100000 in
set_option maxHeartbeats 4000000 in
theorem with_any (v : Vh) (vl vt : Value) (l : List (Int × Int)) (t : List Rq) (hl : l.length ≤ 1000000) (hnum : Nums l) (r i j : Int) (w : World) (hL : Row w.heap.size w vl l) (hT : Rqs w.heap.size w vt t) :
    Calls Tryd.prog 31 #[.agg #[.int .i64 v.hx, .int .i64 v.hy, .int .i64 v.cp, .int .i64 v.st, .int .i64 v.en], vl, vt, .int .i64 r, .int .i64 i, .int .i64 j] w fun e w' =>
      (∃ u, e = .returned (.tuple #[u, .int .i64 (endW v l t r i j), .int .i64 (withE v l t r i j)]) ∧ WithOk w' u v l t r i j) ∧ Below w.heap.size w w' := by
  obtain ⟨w0, hw0⟩ : ∃ w0, (w.alloc (.cells #[.int .i64 v.hx, .int .i64 v.hy, .int .i64 v.cp, .int .i64 v.st, .int .i64 v.en] 28)).alloc (.cells #[.int .i64 r] 3) = w0 := ⟨_, rfl⟩
  obtain ⟨q, hq⟩ : ∃ q, w.heap.size = q := ⟨_, rfl⟩
  have hB0 : Below q w w0 := by rw [← hw0]; exact ((Below.refl _ _).alloc (by omega) _).alloc (by simp; omega) _
  have hP : At w0 q 28 #[.int .i64 v.hx, .int .i64 v.hy, .int .i64 v.cp, .int .i64 v.st, .int .i64 v.en] := by rw [← hw0]; exact (At.new_ _ _ _ hq.symm).alloc _
  have hR : At w0 (q + 1) 3 #[.int .i64 r] := by rw [← hw0]; exact At.new_ _ _ _ (by simp [hq])
  rw [hq] at hL hT
  have hs0 : q + 1 < w0.heap.size := hR.inside
  have hrc := hR.cell 0
  simp at hrc
  have hHas := Has_any (q + 1) r vl l hl w0 ((hL.keep hB0 (Nat.le_refl _)).more (by omega)) hrc hs0
  obtain ⟨xl, Nl, capl, rfl, hNl, hl0, hlc1, hlc2⟩ := hL.opened
  obtain ⟨xt, Nt, capt, rfl, hNt0, htc1, htc2, ht0⟩ := hT.opened
  have hNt := Lib.hid hNt0
  unfold maxLen at hlc2 htc2
  have hL' := Lib.hid hL
  have hT' := Lib.hid hT
  have hl' := Lib.hid hl
  have hnum' := Lib.hid hnum
  have hP' := Lib.hid hP
  have hR' := Lib.hid hR
  have hB0' := Lib.hid hB0
  clear hL hT hNt0 ht0 hl0 hl hnum hP hR hB0
  by_cases h1 : r < 0
  · have he := Lib.hid (withE_req (v := v) (l := l) (t := t) (r := r) (i := i) (j := j) (by simp [inT]; omega))
    clear hHas
    go_enter Tryd.func31, Tryd.ntmps31
    go_wp2
    refine bodyPost_ret (v := .tuple #[.slice none 0 0, .int .i64 0, .int .i64 8]) (by simp [results, Tryd.results31, go_sem]) rfl ?_
    try simp only [hq]
    exact ⟨⟨_, ret_w rfl (endW_no (by rw [he.out]; omega)).symm he.out.symm, WithOk.no (by rw [he.out]; omega)⟩, by first | exact hB0'.out | (rw [hq]; exact hB0'.out)⟩
  by_cases h2 : (Nt : Int) ≤ r
  · have he := Lib.hid (withE_req (v := v) (l := l) (t := t) (r := r) (i := i) (j := j) (by have := hNt.out; simp [inT]; omega))
    clear hHas
    go_enter Tryd.func31, Tryd.ntmps31
    go_wp2
    refine bodyPost_ret (v := .tuple #[.slice none 0 0, .int .i64 0, .int .i64 8]) (by simp [results, Tryd.results31, go_sem]) rfl ?_
    try simp only [hq, hw0]
    exact ⟨⟨_, ret_w rfl (endW_no (by rw [he.out]; omega)).symm he.out.symm, WithOk.no (by rw [he.out]; omega)⟩, by first | exact hB0'.out | (rw [hq]; exact hB0'.out)⟩
  have hin : Hid (inT t r = true) := Lib.hid (inT_iff.2 ⟨by omega, by rw [hNt.out]; omega⟩)
  go_enter Tryd.func31, Tryd.ntmps31
  go_wp2_with fail
  try simp only [hq, hw0]
  refine hHas.mono ?_
  clear hHas
  rintro e w1 ⟨rfl, hb1⟩
  have hB1 := hB0'.out.trans (hb1.mono (by omega : q ≤ w0.heap.size))
  have hP1 := Lib.hid (hP'.out.keep hb1 (by omega))
  have hR1 := Lib.hid (hR'.out.keep hb1 (by omega))
  have hs1 : q + 1 < w1.heap.size := hR1.out.inside
  have hB1' := Lib.hid hB1
  clear hb1 hB1 hrc hs0
  cases hno : noR r l
  · have he := Lib.hid (withE_req (v := v) (l := l) (t := t) (r := r) (i := i) (j := j) (by rw [hno, Bool.and_false]))
    clear hno
    go_wp2
    refine bodyPost_ret (v := .tuple #[.slice none 0 0, .int .i64 0, .int .i64 8]) (by simp [results, Tryd.results31, go_sem]) rfl ?_
    exact ⟨⟨_, ret_w rfl (endW_no (by rw [he.out]; omega)).symm he.out.symm, WithOk.no (by rw [he.out]; omega)⟩, by first | exact hB1'.out | (rw [hq]; exact hB1'.out)⟩
  have hto : Hid ((inT t r && noR r l) = true) := Lib.hid (by rw [hin.out, hno]; rfl)
  clear hno
  have hTi := Times_all v _ _ l t hl'.out hnum'.out w1 ((hL'.out.keep hB1'.out (Nat.le_refl _)).more (by omega)) ((hT'.out.keep hB1'.out (Nat.le_refl _)).more (by omega))
  have p0 := hP1.out.cell 0
  have p1 := hP1.out.cell 1
  have p2 := hP1.out.cell 2
  have p3 := hP1.out.cell 3
  have p4 := hP1.out.cell 4
  simp at p0 p1 p2 p3 p4
  obtain ⟨E, hE⟩ : ∃ E, errT v l t = E := ⟨_, rfl⟩
  obtain ⟨H, hH⟩ : ∃ H, homeT v l t = H := ⟨_, rfl⟩
  rw [hE, hH] at hTi
  have hE' := Lib.hid hE
  have hH' := Lib.hid hH
  clear hE hH
  go_wp2_with fail
  refine hTi.mono ?_
  clear hTi
  rintro e w2 ⟨⟨u, rfl, hu, _⟩, hb2⟩
  have hB2' := Lib.hid (hB1'.out.trans (hb2.mono (by omega : q ≤ w1.heap.size)))
  have hR2 := Lib.hid (hR1.out.keep hb2 (by omega))
  have hs2 : q + 1 < w2.heap.size := hR2.out.inside
  clear hu hb2 p0 p1 p2 p3 p4
  cases he0 : (E == 0)
  · have he1 : (E != 0) = true := by simpa using he0
    have he := Lib.hid (withE_err (i := i) (j := j) hto.out (by rw [hE'.out]; simpa using he0))
    rw [hE'.out] at he
    have hne : Hid (E ≠ 0) := Lib.hid (by simpa using he0)
    go_wp2
    refine bodyPost_ret (v := .tuple #[.slice none 0 0, .int .i64 0, .int .i64 E]) (by simp [results, Tryd.results31, go_sem]) rfl ?_
    exact ⟨⟨_, ret_w rfl (endW_no (by rw [he.out]; exact hne.out)).symm he.out.symm, WithOk.no (by rw [he.out]; exact hne.out)⟩, by first | exact hB2'.out | (rw [hq]; exact hB2'.out)⟩
  have he1 : (E != 0) = false := by simpa using he0
  have hz : Hid (errT v l t = 0) := Lib.hid (by rw [hE'.out]; simpa using he0)
  by_cases h3 : 14 < Nl
  · have he := Lib.hid (withE_count (i := i) (j := j) hto.out hz.out (by rw [hNl.out]; exact h3))
    have hn16 := (times_ok (When.errT_zero hz.out).1).2.2.1
    rw [hNl.out] at hn16
    go_wp2
    refine bodyPost_ret (v := .tuple #[.slice none 0 0, .int .i64 0, .int .i64 11]) (by simp [results, Tryd.results31, go_sem]) rfl ?_
    exact ⟨⟨_, ret_w rfl (endW_no (by rw [he.out]; omega)).symm he.out.symm, WithOk.no (by rw [he.out]; omega)⟩, by first | exact hB2'.out | (rw [hq]; exact hB2'.out)⟩
  have h3' : Hid (¬ 14 < l.length) := Lib.hid (by rw [hNl.out]; exact h3)
  have hmw : Hid (mayW l r i j = placesB l.length i j) := Lib.hid (mayW_places hto.out h3'.out)
  have hWi := With_any _ l r i j hl'.out w2 ((hL'.out.keep hB2'.out (Nat.le_refl _)).more (by omega))
  rw [hmw.out] at hWi
  have hrc2 := hR2.out.cell 0
  simp at hrc2
  obtain ⟨b, hb⟩ : ∃ b, placesB l.length i j = b := ⟨_, rfl⟩
  rw [hb] at hWi
  have hb' := Lib.hid hb
  clear hb
  go_wp2_with fail
  refine hWi.mono ?_
  clear hWi
  rintro e w3 ⟨⟨u3, rfl, hu3, _⟩, hb3⟩
  have hB3' := Lib.hid (hB2'.out.trans (hb3.mono (by omega : q ≤ w2.heap.size)))
  have hu3' := Lib.hid hu3
  clear hu3 hb3 hrc2
  cases b
  · have he := Lib.hid (withE_place hto.out hz.out h3'.out hb'.out)
    go_wp2
    refine bodyPost_ret (v := .tuple #[.slice none 0 0, .int .i64 0, .int .i64 8]) (by simp [results, Tryd.results31, go_sem]) rfl ?_
    exact ⟨⟨_, ret_w rfl (endW_no (by rw [he.out]; omega)).symm he.out.symm, WithOk.no (by rw [he.out]; omega)⟩, by first | exact hB3'.out | (rw [hq]; exact hB3'.out)⟩
  · have he := Lib.hid (withE_ok hto.out hz.out h3'.out hb'.out)
    have hfin : Hid (WithOk w3 u3 v l t r i j) := Lib.hid (WithOk.yes he.out (by have := hu3'.out; rwa [withV_more (by rw [hmw.out]; exact hb'.out)] at this))
    obtain ⟨xu, Nu, cu, rfl, -⟩ := hu3'.out.opened
    go_wp2
    refine bodyPost_ret (v := .tuple #[.slice xu Nu cu, .int .i64 H, .int .i64 0]) (by simp [results, Tryd.results31, go_sem]) rfl ?_
    exact ⟨⟨_, ret_w rfl (by rw [endW_yes he.out, hH'.out]) he.out.symm, hfin.out⟩, by first | exact hB3'.out | (rw [hq]; exact hB3'.out)⟩

end Go.Proofs.YthjdacbgcpldjaaDoor.Ins
