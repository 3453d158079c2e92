import Derived.Test.YtlbghdiebjldjaaGreatDoorPkInsRise

namespace Go.Proofs.YtlbghdiebjldjaaGreatDoor.Cheap
open Go.RowKit Go.Sort Go.Proofs.YtlbghdiebjldjaaGreatDoor.Mem Go.Proofs.YtlbghdiebjldjaaGreatDoor.Order Go.Proofs.YtlbghdiebjldjaaGreatDoor.Route Go.Proofs.YtlbghdiebjldjaaGreatDoor.When Go.Proofs.YtlbghdiebjldjaaGreatDoor.Load Go.Proofs.YtlbghdiebjldjaaGreatDoor.Ins
set_option linter.unusedVariables false
def rbestE (v : Vh) (l : List (Int × Int)) (t : List Rq) (r : Int) : Int := if rightE v l t r ≠ 0 then rightE v l t r else if allR v l t r = [] then 12 else 0
def rbestW (v : Vh) (l : List (Int × Int)) (t : List Rq) (r : Int) : Wy := if rbestE v l t r = 0 then leastW (allR v l t r) else ⟨0, 0, 0⟩
theorem rbestE_right {v : Vh} {l : List (Int × Int)} {t : List Rq} {r : Int} (h : rightE v l t r ≠ 0) : rbestE v l t r = rightE v l t r := by unfold rbestE; rw [if_pos h]
theorem rbestE_none {v : Vh} {l : List (Int × Int)} {t : List Rq} {r : Int} (h : rightE v l t r = 0) (h2 : allR v l t r = []) : rbestE v l t r = 12 := by unfold rbestE; rw [if_neg (by omega), if_pos h2]
theorem rbestE_ok {v : Vh} {l : List (Int × Int)} {t : List Rq} {r : Int} (h : rightE v l t r = 0) (h2 : allR v l t r ≠ []) : rbestE v l t r = 0 := by unfold rbestE; rw [if_neg (by omega), if_neg h2]
theorem rbestE_zero {v : Vh} {l : List (Int × Int)} {t : List Rq} {r : Int} (h : rbestE v l t r = 0) : rightE v l t r = 0 ∧ allR v l t r ≠ [] := by
 unfold rbestE at h
 split at h
 · omega
 split at h
 · omega
 · exact ⟨by omega, by assumption⟩
theorem rbestW_no {v : Vh} {l : List (Int × Int)} {t : List Rq} {r : Int} (h : rbestE v l t r ≠ 0) : rbestW v l t r = ⟨0, 0, 0⟩ := by unfold rbestW; rw [if_neg h]
theorem rbestW_ok {v : Vh} {l : List (Int × Int)} {t : List Rq} {r : Int} (h : rbestE v l t r = 0) : rbestW v l t r = leastW (allR v l t r) := by unfold rbestW; rw [if_pos h]
theorem allR_small (v : Vh) (l : List (Int × Int)) (t : List Rq) (r : Int) : Small (allR v l t r) := by
 unfold allR
 split
 · exact ways_small _ _ _ _ _
 · intro y h; cases h
theorem allR_len (v : Vh) (l : List (Int × Int)) (t : List Rq) (r : Int) : (allR v l t r).length ≤ 153 := by
 unfold allR
 split
 · exact Nat.le_trans (waysP_len _ _ _ _ _) (pairsL_len _)
 · simp
theorem leastW_one {ws : List Wy} {y : Wy} (hs : Small ws) (h : ws[0]? = some y) : leastW (ws.take 1) = y := by
 cases ws with
 | nil => cases h
 | cons w ws =>
  cases h
  rw [show (y :: ws).take 1 = [y] from rfl, least_head (hs y (by simp))]
  rfl
theorem leastW_next {ws : List Wy} {k : Nat} {y : Wy} (h : ws[k]? = some y) : leastW (ws.take (k + 1)) = lessW (leastW (ws.take k)) y := by
 rw [List.take_add_one, h]
 exact leastW_snoc _ _
theorem res_rway {fn : Func} {p k : Tmp} (h : fn.results = #[.cell p 127, .tmp k]) {tmps : Array Value} {w : World} {g : Nat} {x0 x1 x2 u : Value} (hp : tmps.getD p undef = .pointer (some ⟨g, 0, none⟩)) (hk : tmps.getD k undef = u)
 (hA : At w g 127 #[x0, x1, x2]) : (results fn tmps).run Tryz.prog w = .ok (.tuple #[.agg #[x0, x1, x2], u]) w := by
 have hp' : tmps[p]?.getD undef = .pointer (some ⟨g, 0, none⟩) := by simpa using hp
 have hk' : tmps[k]?.getD undef = u := by simpa using hk
 have c0 := hA.cell 0
 have c1 := hA.cell 1
 have c2 := hA.cell 2
 simp at c0 c1 c2
 simp only [results, h]
 go_simp
 try rw [hk']
theorem put_w3 {w : World} {g : Nat} {t : TypeId} {a0 a1 a2 x0 x1 x2 : Value} (h : At w g t #[a0, a1, a2]) :
 At (((w.setCell ⟨g, 0, none⟩ x0).setCell ⟨g, 1, none⟩ x1).setCell ⟨g, 2, none⟩ x2) g t #[x0, x1, x2] := by
 simpa using ((h.put 0 x0).put 1 x1).put 2 x2
theorem ret_rbest {a b : Wy} {c d : Int} (h : a = b) (h2 : c = d) : Ending.returned (.tuple #[.agg (encW a), .int .i64 c]) = .returned (.tuple #[.agg (encW b), .int .i64 d]) := by rw [h, h2]
set_option maxRecDepth 100000 in
set_option maxHeartbeats 8000000 in
theorem refBest_any (v : Vh) (vl vt : Value) (l : List (Int × Int)) (t : List Rq) (hl : l.length ≤ 1000000) (hnum : Nums l) (r : Int) (w : World) (hL : Row w.heap.size w vl l) (hT : Rqs w.heap.size w vt t) :
 Calls Tryz.prog 71 #[.agg #[.int .i64 v.hx, .int .i64 v.hy, .int .i64 v.cp, .int .i64 v.st, .int .i64 v.en], vl, vt, .int .i64 r] w fun e w' =>
  e = .returned (.tuple #[.agg (encW (rbestW v l t r)), .int .i64 (rbestE v l t r)]) ∧ Below w.heap.size w w' := by
 obtain ⟨q, hq⟩ : ∃ q, w.heap.size = q := ⟨_, rfl⟩
 obtain ⟨w1, hw1⟩ : ∃ w1, (w.alloc (.cells #[.int .i64 v.hx, .int .i64 v.hy, .int .i64 v.cp, .int .i64 v.st, .int .i64 v.en] 64)).alloc (.cells #[.int .i64 0, .int .i64 0, .int .i64 0] 127) = w1 := ⟨_, rfl⟩
 have hs1 : w1.heap.size = q + 2 := by rw [← hw1]; simp [hq]
 have hv1 : At w1 q 64 #[.int .i64 v.hx, .int .i64 v.hy, .int .i64 v.cp, .int .i64 v.st, .int .i64 v.en] := by rw [← hw1]; exact (At.new_ _ _ _ hq.symm).alloc _
 have hr1 : At w1 (q + 1) 127 #[.int .i64 0, .int .i64 0, .int .i64 0] := by rw [← hw1]; exact At.new_ _ _ _ (by simp [hq])
 have hb1 : Below q w w1 := by rw [← hw1]; exact ((Below.refl _ _).alloc (by omega) _).alloc (by simp; omega) _
 rw [hq] at hL hT
 have hAll := refAll_any v vl vt l t hl hnum r w1 ((hL.keep hb1 (Nat.le_refl _)).more (by omega)) ((hT.keep hb1 (Nat.le_refl _)).more (by omega))
 have a0 := hv1.cell 0
 have a1 := hv1.cell 1
 have a2 := hv1.cell 2
 have a3 := hv1.cell 3
 have a4 := hv1.cell 4
 simp at a0 a1 a2 a3 a4
 obtain ⟨xl, Nl, capl, rfl, hNl, -⟩ := hL.opened
 obtain ⟨xt, Nt, capt, rfl, -⟩ := hT.opened
 obtain ⟨E, hE⟩ : ∃ E, rightE v l t r = E := ⟨_, rfl⟩
 rw [hE] at hAll
 have hE' := Lib.hid hE
 have hq' := Lib.hid hq
 have hw1' := Lib.hid hw1
 have hr1' := Lib.hid hr1
 have hb1' := Lib.hid hb1
 clear hE hq hw1 hr1 hb1 hL hT hNl hnum hl hv1
 go_enter Tryz.func71, Tryz.ntmps71
 go_upto_region 1 with fail
 try simp only [hq'.out]
 try rw [hw1'.out]
 go_wp2_with fail
 refine hAll.mono ?_
 clear hAll a0 a1 a2 a3 a4
 rintro e w2 ⟨⟨u, rfl, hu⟩, hb2⟩
 have hR2 := hr1'.out.keep hb2 (by omega)
 have hB2 := Lib.hid (hb1'.out.trans (hb2.mono (by omega : q ≤ w1.heap.size)))
 have r0 := hR2.cell 0
 have r1 := hR2.cell 1
 have r2 := hR2.cell 2
 have rf := hR2.free
 simp at r0 r1 r2
 have hs2 : q + 1 < w2.heap.size := hR2.inside
 have hR2' := Lib.hid hR2
 obtain ⟨ws, hws⟩ : ∃ ws, allR v l t r = ws := ⟨_, rfl⟩
 have hsm := Lib.hid (allR_small v l t r)
 have hln := Lib.hid (allR_len v l t r)
 rw [hws] at hu hsm hln
 have hws' := Lib.hid hws
 obtain ⟨xu, Nu, cu, rfl, hNu0, huc1, huc2⟩ := Wys.opened hu
 have hNu : Hid (ws.length = Nu) := Lib.hid hNu0
 unfold maxLen at huc2
 have hu' := Lib.hid hu
 clear hb2 hu hws hNu0 hR2
 cases hE0 : (E == 0)
 · have hE1 : (E != 0) = true := by simpa using hE0
   have he := Lib.hid (show rbestE v l t r = E by rw [rbestE_right (by rw [hE'.out]; simpa using hE0), hE'.out])
   have hwn := Lib.hid (rbestW_no (v := v) (l := l) (t := t) (r := r) (by rw [he.out]; simpa using hE0))
   go_wp2
   refine bodyPost_ret (res_rway rfl rfl rfl (by exact put_w3 hR2'.out)) rfl ?_
   exact ⟨ret_rbest (a := ⟨0, 0, 0⟩) hwn.out.symm he.out.symm, by rw [hq'.out]; exact ((hB2.out.setCell (by simp) _).setCell (by simp) _).setCell (by simp) _⟩
 have hE1 : (E != 0) = false := by simpa using hE0
 have hEz : Hid (rightE v l t r = 0) := Lib.hid (by rw [hE'.out]; simpa using hE0)
 by_cases hN0 : Nu = 0
 · have he := Lib.hid (show rbestE v l t r = 12 from rbestE_none hEz.out (by rw [hws'.out]; exact List.length_eq_zero_iff.1 (hNu.out.trans hN0)))
   have hwn := Lib.hid (rbestW_no (v := v) (l := l) (t := t) (r := r) (by rw [he.out]; omega))
   subst hN0
   go_wp2
   refine bodyPost_ret (res_rway rfl rfl rfl (by exact put_w3 hR2'.out)) rfl ?_
   exact ⟨ret_rbest (a := ⟨0, 0, 0⟩) hwn.out.symm he.out.symm, by rw [hq'.out]; exact ((hB2.out.setCell (by simp) _).setCell (by simp) _).setCell (by simp) _⟩
 have hne : Hid (ws ≠ []) := Lib.hid (fun e => by have := hNu.out; rw [e] at this; exact hN0 this.symm)
 have he := Lib.hid (show rbestE v l t r = 0 from rbestE_ok hEz.out (by rw [hws'.out]; exact hne.out))
 have hwn := Lib.hid (show rbestW v l t r = leastW ws by rw [rbestW_ok he.out, hws'.out])
 obtain ⟨y0, hy0⟩ : ∃ y, ws[0]? = some y := ⟨ws[0]'(by rw [hNu.out]; omega), List.getElem?_eq_getElem _⟩
 obtain ⟨g, o, rfl, hg, c0, c1, c2⟩ := Wys.at hu'.out hy0
 have hone := Lib.hid (leastW_one hsm.out hy0)
 have hN1 : 1 ≤ Nu := by omega
 have hN153 : Nu ≤ 153 := by have := hln.out; have := hNu.out; omega
 have hNi : ¬ ((Nu : Int) = 0) := by omega
 obtain ⟨m, hm⟩ : ∃ m, w2.heap.size = m := ⟨_, rfl⟩
 have hm' := Lib.hid hm
 simp at c0 c1 c2
 clear hy0 hN0 hE0
 obtain ⟨w3, hw3⟩ : ∃ w3, w2.alloc (.cells #[.int .i64 y0.i, .int .i64 y0.j, .int .i64 y0.n] 127) = w3 := ⟨_, rfl⟩
 have hA3 : At w3 m 127 (encW (leastW (ws.take 1))) := by rw [← hw3, hone.out]; exact At.new_ _ _ _ hm.symm
 have hb3 : Below w2.heap.size w2 w3 := by rw [← hw3]; exact (Below.refl _ _).alloc (Nat.le_refl _) _
 have hw3' := Lib.hid hw3
 clear hw3 hm
 go_upto_region 7 with fail
 try simp only [hm'.out]
 try rw [hw3'.out]
 go_wp2
 go_loopw [13] (fun i wr => ∃ k : Nat, i = .int .i64 k ∧ 1 ≤ k ∧ k ≤ Nu ∧ At wr m 127 (encW (leastW (ws.take k))) ∧ Below w2.heap.size w2 wr)
  (fun i _ => Nu - (intOf i).toNat)
 case atStart => exact ⟨1, rfl, Nat.le_refl _, hN1, hA3, hb3⟩
 case round =>
  obtain ⟨k, rfl, hk1, hk, hA, hbw⟩ := hrel
  clear c0 c1 c2
  have hmw : m < wr.heap.size := hA.inside
  obtain ⟨L, hL⟩ : ∃ L, leastW (ws.take k) = L := ⟨_, rfl⟩
  rw [hL] at hA
  have b0 := hA.cell 0
  have b1 := hA.cell 1
  have b2 := hA.cell 2
  have bf := hA.free
  simp [encW] at b0 b1 b2
  by_cases hlt : k < Nu
  · obtain ⟨y, hy⟩ : ∃ y, ws[k]? = some y := ⟨ws[k]'(by rw [hNu.out]; exact hlt), List.getElem?_eq_getElem _⟩
    obtain ⟨g', o', e9, hg', c0, c1, c2⟩ := Wys.at (Wys.keep hu'.out hbw (Nat.le_refl _)) hy
    cases e9
    have hnx := Lib.hid (show leastW (ws.take (k + 1)) = lessW L y by rw [leastW_next hy, hL])
    have hki : (k : Int) < (Nu : Int) := by omega
    have hA' := Lib.hid hA
    have hbw' := Lib.hid hbw
    have hkN := Lib.hid (show k + 1 ≤ Nu from hlt)
    clear hy hL hA hbw
    by_cases hyl : y.n < L.n
    · have hl9 := Lib.hid (show lessW L y = y by unfold lessW; rw [if_pos hyl])
      go_upto_region 10 with fail
      go_quiet (fail)
      go_wp2
      have hmm := hm'.out
      exact ⟨⟨k + 1, by go_num, by omega, hkN.out, by rw [hnx.out, hl9.out]; exact put_w3 (hA'.out.drewN nq), (((Load.below_drewN hbw'.out nq).setCell (by simp; omega) _).setCell (by simp; omega) _).setCell (by simp; omega) _⟩, by simp [intOf]; omega⟩
    · have hl9 := Lib.hid (show lessW L y = L by unfold lessW; rw [if_neg hyl])
      go_upto_region 10 with fail
      go_quiet (fail)
      go_wp2
      exact ⟨⟨k + 1, by go_num, by omega, hkN.out, by rw [hnx.out, hl9.out]; exact hA'.out.drewN nq, Load.below_drewN hbw'.out nq⟩, by simp [intOf]; omega⟩
  · obtain rfl : k = Nu := by omega
    have hn : ws.take k = ws := by rw [← hNu.out, List.take_length]
    rw [hn] at hL
    have hwl := Lib.hid (show rbestW v l t r = L by rw [hwn.out, hL])
    have hR4 := Lib.hid (hR2'.out.keep hbw (by omega))
    have r0 := hR4.out.cell 0
    have r1 := hR4.out.cell 1
    have r2 := hR4.out.cell 2
    have rf := hR4.out.free
    simp at r0 r1 r2
    have hB4 := Lib.hid (hB2.out.trans (hbw.mono (by omega : q ≤ w2.heap.size)))
    have hqw : q + 1 < wr.heap.size := hR4.out.inside
    clear hn hL hA hbw
    go_wp2
    refine bodyPost_ret (res_rway rfl rfl rfl (by exact put_w3 hR4.out)) rfl ?_
    exact ⟨ret_rbest (a := L) hwl.out.symm he.out.symm, by rw [hq'.out]; exact ((hB4.out.setCell (by simp) _).setCell (by simp) _).setCell (by simp) _⟩
def rputC (v : Vh) (l : List (Int × Int)) (t : List Rq) (r : Int) : List (Int × Int) := moreL l r (rbestW v l t r).i (rbestW v l t r).j
def RPutOk (w W : World) (u : Value) (v : Vh) (l : List (Int × Int)) (t : List Rq) (r : Int) : Prop :=
 if rbestE v l t r = 0 then Row W.heap.size W u (rputC v l t r) ∧ NewB w.heap.size u else u = .slice none 0 0
theorem ret_rput {u : Value} {a b c d : Int} (h : a = b) (h2 : c = d) : Ending.returned (.tuple #[u, .int .i64 a, .int .i64 c]) = .returned (.tuple #[u, .int .i64 b, .int .i64 d]) := by rw [h, h2]
theorem rbest_may {v : Vh} {l : List (Int × Int)} {t : List Rq} {r : Int} (h : rbestE v l t r = 0) : mayW l r (rbestW v l t r).i (rbestW v l t r).j = true := by
 obtain ⟨h1, h2⟩ := rbestE_zero h
 obtain ⟨p, b, q, e1, e2, -, -⟩ := least_some (allR_small v l t r) h2
 rw [rbestW_ok h, e2]
 have hm : b ∈ allR v l t r := by rw [e1]; simp
 unfold allR at hm
 split at hm
 · exact (withE_zero (riseE_zero (waysP_mem hm).2.1).1).2.2.2.2
 · cases hm
set_option maxRecDepth 100000 in
set_option maxHeartbeats 8000000 in
theorem refPut_any (v : Vh) (vl vt : Value) (l : List (Int × Int)) (t : List Rq) (hl : l.length ≤ 1000000) (hnum : Nums l) (r : Int) (w : World) (hL : Row w.heap.size w vl l) (hT : Rqs w.heap.size w vt t) :
 Calls Tryz.prog 69 #[.agg #[.int .i64 v.hx, .int .i64 v.hy, .int .i64 v.cp, .int .i64 v.st, .int .i64 v.en], vl, vt, .int .i64 r] w fun e w' =>
  (∃ u, e = .returned (.tuple #[u, .int .i64 (rbestW v l t r).n, .int .i64 (rbestE v l t r)]) ∧ RPutOk w w' u v l t r) ∧ Below w.heap.size w w' := by
 obtain ⟨q, hq⟩ : ∃ q, w.heap.size = q := ⟨_, rfl⟩
 obtain ⟨w1, hw1⟩ : ∃ w1, w.alloc (.cells #[.int .i64 v.hx, .int .i64 v.hy, .int .i64 v.cp, .int .i64 v.st, .int .i64 v.en] 64) = w1 := ⟨_, rfl⟩
 have hs1 : w1.heap.size = q + 1 := by rw [← hw1]; simp [hq]
 have hv1 : At w1 q 64 #[.int .i64 v.hx, .int .i64 v.hy, .int .i64 v.cp, .int .i64 v.st, .int .i64 v.en] := by rw [← hw1]; exact At.new_ _ _ _ hq.symm
 have hb1 : Below q w w1 := by rw [← hw1]; exact (Below.refl _ _).alloc (by omega) _
 have hL1 := ((hL.keep (by rw [hq]; exact hb1) (Nat.le_refl _)).more (by omega : w.heap.size ≤ w1.heap.size))
 have hT1 := ((hT.keep (by rw [hq]; exact hb1) (Nat.le_refl _)).more (by omega : w.heap.size ≤ w1.heap.size))
 have hB := refBest_any v vl vt l t hl hnum r w1 hL1 hT1
 have a0 := hv1.cell 0
 have a1 := hv1.cell 1
 have a2 := hv1.cell 2
 have a3 := hv1.cell 3
 have a4 := hv1.cell 4
 simp at a0 a1 a2 a3 a4
 obtain ⟨xl, Nl, capl, rfl, hNl, -⟩ := hL.opened
 obtain ⟨xt, Nt, capt, rfl, -⟩ := hT.opened
 have hin0 := Lib.hid (rbest_may (v := v) (l := l) (t := t) (r := r))
 have hno0 := Lib.hid (rbestW_no (v := v) (l := l) (t := t) (r := r))
 obtain ⟨B, hBw⟩ : ∃ B, rbestW v l t r = B := ⟨_, rfl⟩
 obtain ⟨E, hEe⟩ : ∃ E, rbestE v l t r = E := ⟨_, rfl⟩
 rw [hBw, hEe] at hB ⊢
 rw [hBw, hEe] at hin0 hno0
 unfold encW at hB
 have hpc := Lib.hid (show rputC v l t r = moreL l r B.i B.j by unfold rputC; rw [hBw])
 have hE' := Lib.hid hEe
 have hq' := Lib.hid hq
 have hw1' := Lib.hid hw1
 have hb1' := Lib.hid hb1
 have hL' := Lib.hid hL1
 have hl' := Lib.hid hl
 clear hBw hEe hq hw1 hL hT hNl hb1 hnum hL1 hT1 hl
 go_enter Tryz.func69, Tryz.ntmps69
 go_upto_region 1 with fail
 try simp only [hq'.out]
 try rw [hw1'.out]
 go_wp2_with fail
 refine hB.mono ?_
 clear hB a0 a1 a2 a3 a4
 rintro e w2 ⟨rfl, hb2⟩
 have hB2' := Lib.hid (hb1'.out.trans (hb2.mono (by omega : q ≤ w1.heap.size)))
 have hL2 := Lib.hid ((hL'.out.keep hb2 (Nat.le_refl _)).more hb2.size)
 have hs2 : q + 1 ≤ w2.heap.size := by have := hb2.size; omega
 clear hb2 hv1
 obtain ⟨m, hm⟩ : ∃ m, w2.heap.size = m := ⟨_, rfl⟩
 have hm' := Lib.hid hm
 obtain ⟨w3, hw3⟩ : ∃ w3, w2.alloc (.cells #[.int .i64 B.i, .int .i64 B.j, .int .i64 B.n] 127) = w3 := ⟨_, rfl⟩
 have hs3 : w3.heap.size = m + 1 := by rw [← hw3]; simp [hm]
 have hA3 : At w3 m 127 #[.int .i64 B.i, .int .i64 B.j, .int .i64 B.n] := by rw [← hw3]; exact At.new_ _ _ _ hm.symm
 have hb3 : Below m w2 w3 := by rw [← hw3]; exact (Below.refl _ _).alloc (by omega) _
 have hB3 := Lib.hid (hB2'.out.trans (hb3.mono (by omega : q ≤ m)))
 have hL3 := Lib.hid ((hL2.out.keep (by rw [hm]; exact hb3) (Nat.le_refl _)).more (by omega : w2.heap.size ≤ w3.heap.size))
 have hWith := refWith_new _ l r B.i B.j hl'.out w3 hL3.out
 have c0 := hA3.cell 0
 have c1 := hA3.cell 1
 simp at c0 c1
 have hw3' := Lib.hid hw3
 clear hw3 hm hb3
 cases he0 : (E == 0)
 · have he1 : (E != 0) = true := by simpa using he0
   clear hWith
   have hne : E ≠ 0 := by simpa using he0
   have hBz := Lib.hid (show B.n = 0 by rw [hno0.out hne])
   go_wp2
   refine bodyPost_ret (v := .tuple #[.slice none 0 0, .int .i64 0, .int .i64 E]) (by simp [results, Tryz.results69, go_sem]) rfl ?_
   try simp only [hw3'.out]
   exact ⟨⟨_, ret_rput hBz.out.symm rfl, by unfold RPutOk; rw [hE'.out, if_neg hne]⟩, by rw [hq'.out]; exact hB3.out⟩
 · have he1 : (E != 0) = false := by simpa using he0
   have hz : E = 0 := by simpa using he0
   have hmay := hin0.out hz
   rw [hmay] at hWith
   have hmo := Lib.hid (withV_more hmay)
   have hs34 : q ≤ w3.heap.size := by have := hm'.out; omega
   go_upto_region 2 with fail
   try simp only [hm'.out]
   try rw [hw3'.out]
   go_wp2_with fail
   refine hWith.mono ?_
   clear hWith c0 c1
   rintro e w4 ⟨⟨u, rfl, hu, hnew⟩, hb4⟩
   have hA4 := hA3.keep hb4 (by omega)
   have hB4 := Lib.hid (hB3.out.trans (hb4.mono hs34))
   obtain ⟨xu, Nu, cu, rfl, -⟩ := hu.opened
   have c2 := hA4.cell 2
   simp at c2
   have hs4 : m < w4.heap.size := hA4.inside
   have hu' := Lib.hid hu
   have hnew' := Lib.hid hnew
   clear hb4 hu hnew hA4
   go_upto_region 5 with fail
   go_quiet (fail)
   go_wp2
   refine bodyPost_ret (v := .tuple #[.slice xu Nu cu, .int .i64 B.n, .int .i64 0]) (by simp [results, Tryz.results69, go_sem]) rfl ?_
   refine ⟨⟨_, ret_rput rfl hz.symm, ?_⟩, by rw [hq'.out]; exact Load.below_drewN hB4.out nq⟩
   unfold RPutOk
   rw [hE'.out, if_pos hz, hpc.out, ← hmo.out]
   exact ⟨hu'.out.on (Load.below_drewN (Below.refl _ _) nq), fun r e => Nat.le_trans (by rw [hq'.out]; exact hs34) (hnew'.out r e)⟩
end Go.Proofs.YtlbghdiebjldjaaGreatDoor.Cheap
namespace Go.Proofs.YtlbghdiebjldjaaGreatDoor.Plan
open Go.RowKit Go.Proofs.YtlbghdiebjldjaaGreatDoor.Order Go.Proofs.YtlbghdiebjldjaaGreatDoor.Place Go.Proofs.YtlbghdiebjldjaaGreatDoor.Route Go.Proofs.YtlbghdiebjldjaaGreatDoor.When Go.Proofs.YtlbghdiebjldjaaGreatDoor.Load Go.Proofs.YtlbghdiebjldjaaGreatDoor.Feas Go.Proofs.YtlbghdiebjldjaaGreatDoor.Ins Go.Proofs.YtlbghdiebjldjaaGreatDoor.Cheap
set_option linter.unusedVariables false
theorem best_same {v : Vh} {l : List (Int × Int)} {t : List Rq} (h : Feas.Dr v l t) (he : errT v l t = 0) (r : Int) : rbestE v l t r = bestE v l t r ∧ rbestW v l t r = bestW v l t r := by
 have hh := head_right h he r
 have ha : allR v l t r = eachL v l t r := by unfold allR eachL; rw [hh, he]; simp
 have e1 : rbestE v l t r = bestE v l t r := by unfold rbestE bestE; rw [hh, ha]
 refine ⟨e1, ?_⟩
 unfold rbestW bestW
 rw [e1, ha]
def rbestF (S : St) (r : Int) (i : Nat) : Option Int :=
 match S.vs[i]?, S.rows[i]? with
 | some v, some l => if rbestE v l S.t r = 0 then some (rbestW v l S.t r).n else none
 | _, _ => none
theorem rbestF_at {S : St} {r : Int} {i : Nat} {v : Vh} {l : List (Int × Int)} (hv : S.vs[i]? = some v) (hl : S.rows[i]? = some l) : rbestF S r i = if rbestE v l S.t r = 0 then some (rbestW v l S.t r).n else none := by unfold rbestF; rw [hv, hl]
theorem rbestF_same {S : St} (h : Ok S) (r : Int) : rbestF S r = bestF S r := by
 funext i
 unfold rbestF bestF
 cases hv : S.vs[i]? with
 | none => rfl
 | some v =>
  cases hl : S.rows[i]? with
  | none => rfl
  | some l =>
   obtain ⟨h1, h2, -, -⟩ := h.dr i v l hv hl
   obtain ⟨e1, e2⟩ := best_same h1 h2 r
   simp only [e1, e2]
structure PutAt (S : St) (r : Int) (i : Nat) (v : Vh) (l m : List (Int × Int)) : Prop where
 idx : priceI S r = i
 vat : S.vs[i]? = some v
 lat : S.rows[i]? = some l
 best : bestE v l S.t r = 0
 rise : priceN S r = (bestW v l S.t r).n
 row : m = moreL l r (bestW v l S.t r).i (bestW v l S.t r).j
 may : mayW l r (bestW v l S.t r).i (bestW v l S.t r).j = true
 put : putS S r = { S with rows := S.rows.set i m }
 dr : Feas.Dr v m S.t
 err : errT v m S.t = 0
 fit : fitE v m S.t = 0
 nums : Nums m
 home : homeT v m S.t - homeT v l S.t = priceN S r
 back : woL r m = l
 len : l.length ≤ 14
theorem put_at {S : St} (h : Ok S) {r : Int} (hp : priceE S r = 0) : ∃ i v l m, PutAt S r i v l m := by
 obtain ⟨i, v, l, h1, h2, h3, h4, h5⟩ := price_at hp
 obtain ⟨b1, b2⟩ := best_in h4
 have hz := riseE_zero b1
 have hw := withE_zero hz.1
 obtain ⟨hd, he, hf, hn⟩ := h.dr i v l h2 h3
 have hpz := priceE_zero hp
 have hin := inT_iff.1 hpz.1
 refine ⟨i, v, l, _, h1, h2, h3, h4, h5, rfl, hw.2.2.2.2, putS_yes hp h1 h2 h3, moreDr hd hw.2.2.2.2 hin.2 hw.2.2.1, hz.2.2, hz.2.1, moreL_nums hn ?_, ?_, wo_with hw.2.2.2.2, hw.2.2.1⟩
 · have := h.tl
   exact ⟨by omega, by omega⟩
 · rw [h5, b2, riseV_ok b1]
theorem PutAt.rise_nn {S : St} {r : Int} {i : Nat} {v : Vh} {l m : List (Int × Int)} (h : PutAt S r i v l m) (he : errT v l S.t = 0) : 0 ≤ priceN S r := by
 have := less_home h.dr r h.err (by rw [h.back]; exact he)
 rw [h.back] at this
 have := h.home
 omega
theorem set_get {α : Type} {xs : List α} {i j : Nat} {x y : α} (hi : i < xs.length) (h : (xs.set i x)[j]? = some y) : (j = i ∧ y = x) ∨ (j ≠ i ∧ xs[j]? = some y) := by
 by_cases e : j = i
 · subst e
   rw [List.getElem?_set_self hi] at h
   exact .inl ⟨rfl, (Option.some.inj h).symm⟩
 · rw [List.getElem?_set_ne (fun e' => e e'.symm)] at h
   exact .inr ⟨e, h⟩
theorem Ok.set {S : St} (h : Ok S) {i : Nat} {v : Vh} {l m : List (Int × Int)} (hv : S.vs[i]? = some v) (hl : S.rows[i]? = some l) (hd : Feas.Dr v m S.t) (he : errT v m S.t = 0) (hf : fitE v m S.t = 0) (hn : Nums m)
 (h1 : ∀ j k r, j ≠ i → S.rows[j]? = some k → noR r m = false → noR r k = true) : Ok { S with rows := S.rows.set i m } := by
 have hi := (List.getElem?_eq_some_iff.1 hl).1
 refine ⟨by simp [h.len], h.cnt, h.tl, fun j v' l' hv' hl' => ?_, fun j k a b r ha hb hra hrb => ?_⟩
 · rcases set_get hi hl' with ⟨rfl, rfl⟩ | ⟨_, h3⟩
   · obtain rfl : v = v' := Option.some.inj (hv.symm.trans hv')
     exact ⟨hd, he, hf, hn⟩
   · exact h.dr j v' l' hv' h3
 · rcases set_get hi ha with ⟨rfl, rfl⟩ | ⟨hj, h3⟩
   · rcases set_get hi hb with ⟨rfl, rfl⟩ | ⟨hk, h4⟩
     · rfl
     · rw [h1 k b r hk h4 hra] at hrb; cases hrb
   · rcases set_get hi hb with ⟨rfl, rfl⟩ | ⟨hk, h4⟩
     · rw [h1 j a r hj h3 hrb] at hra; cases hra
     · exact h.one j k a b r h3 h4 hra hrb
theorem PutAt.ok {S : St} (h : Ok S) {r : Int} {i : Nat} {v : Vh} {l m : List (Int × Int)} (p : PutAt S r i v l m) (hw : whereV S.rows r < 0) : Ok (putS S r) := by
 rw [p.put]
 refine h.set p.vat p.lat p.dr p.err p.fit p.nums fun j k q hj hk hq => ?_
 rw [p.row, noR_moreL p.may] at hq
 cases e : noR q k
 · exfalso
   by_cases hqr : q = r
   · have := where_neg.1 hw k (List.mem_of_getElem? hk)
     rw [hqr, this] at e
     cases e
   · have hl : noR q l = false := by simpa [hqr] using hq
     exact hj (h.one j i k l q hk p.lat e hl)
 · rfl
theorem put_ok {S : St} (h : Ok S) (r : Int) : Ok (putS S r) := by
 by_cases hp : priceE S r = 0
 · obtain ⟨i, v, l, m, p⟩ := put_at h hp
   exact p.ok h (priceE_zero hp).2.1
 · rw [putS_no hp]; exact h
theorem PutAt.tot {S : St} {r : Int} {i : Nat} {v : Vh} {l m : List (Int × Int)} (p : PutAt S r i v l m) : totS (putS S r) = totS S + priceN S r := by
 rw [p.put]
 unfold totS
 rw [totR_set S.t m p.vat p.lat, p.home]
theorem put_tot {S : St} (h : Ok S) (r : Int) : totS (putS S r) = totS S + priceN S r ∧ 0 ≤ priceN S r := by
 by_cases hp : priceE S r = 0
 · obtain ⟨i, v, l, m, p⟩ := put_at h hp
   exact ⟨p.tot, p.rise_nn (h.dr i v l p.vat p.lat).2.1⟩
 · rw [putS_no hp, (price_no hp).2]; omega
theorem PutAt.where_ {S : St} {r : Int} {i : Nat} {v : Vh} {l m : List (Int × Int)} (p : PutAt S r i v l m) (hw : whereV S.rows r < 0) : whereV (putS S r).rows r = i := by
 rw [p.put]
 have hi := (List.getElem?_eq_some_iff.1 p.lat).1
 refine where_at (l := m) (by show (S.rows.set i m)[i]? = some m; rw [List.getElem?_set_self hi]) (by rw [p.row, noR_moreL p.may]; simp) fun x hx => ?_
 have hx' : x ∈ S.rows.take i := by
  show x ∈ _
  have : (S.rows.set i m).take i = S.rows.take i := by rw [List.take_set_of_le (Nat.le_refl _)]
  rw [this] at hx
  exact hx
 exact where_neg.1 hw x (List.mem_of_mem_take hx')
theorem undo {S : St} (h : Ok S) {r : Int} (hp : priceE S r = 0) : 0 ≤ whereV (putS S r).rows r ∧ takeS (putS S r) r = S := by
 obtain ⟨i, v, l, m, p⟩ := put_at h hp
 have hw := p.where_ (priceE_zero hp).2.1
 have hi := (List.getElem?_eq_some_iff.1 p.lat).1
 refine ⟨by omega, ?_⟩
 have hm : (putS S r).rows[i]? = some m := by rw [p.put]; show (S.rows.set i m)[i]? = some m; rw [List.getElem?_set_self hi]
 rw [takeS_yes hw hm, p.back, p.put]
 show ({ vs := S.vs, t := S.t, rows := (S.rows.set i m).set i l } : St) = S
 rw [List.set_set]
 have e : S.rows.set i l = S.rows := by
  have := (List.getElem?_eq_some_iff.1 p.lat).2
  rw [← this, List.set_getElem_self]
 rw [e]
structure TakeAt (S : St) (r : Int) (i : Nat) (v : Vh) (l : List (Int × Int)) : Prop where
 idx : whereV S.rows r = i
 vat : S.vs[i]? = some v
 lat : S.rows[i]? = some l
 has : noR r l = false
 take : takeS S r = { S with rows := S.rows.set i (woL r l) }
 dr : Feas.Dr v (woL r l) S.t
 err : errT v (woL r l) S.t = 0
 fit : fitE v (woL r l) S.t = 0
 nums : Nums (woL r l)
 home : homeT v (woL r l) S.t ≤ homeT v l S.t
theorem take_at {S : St} (h : Ok S) {r : Int} (hw : 0 ≤ whereV S.rows r) : ∃ i v l, TakeAt S r i v l := by
 obtain ⟨i, l, e, h1, h2, -⟩ := where_some hw
 have hi : i < S.vs.length := by rw [← h.len]; exact (List.getElem?_eq_some_iff.1 h1).1
 have hv : S.vs[i]? = some S.vs[i] := List.getElem?_eq_getElem hi
 obtain ⟨hd, he, hf, hn⟩ := h.dr i _ l hv h1
 have hless := less_fault hd r ((fault_iff hd).2 ⟨he, hf⟩)
 exact ⟨i, _, l, e, hv, h1, h2, takeS_yes e h1, hd.less r, hless.1, hless.2, nums_less hn, less_home hd r he hless.1⟩
theorem TakeAt.ok {S : St} (h : Ok S) {r : Int} {i : Nat} {v : Vh} {l : List (Int × Int)} (p : TakeAt S r i v l) : Ok (takeS S r) := by
 rw [p.take]
 refine h.set p.vat p.lat p.dr p.err p.fit p.nums fun j k q hj hk hq => ?_
 rw [noR_woL] at hq
 cases e : noR q k
 · exfalso
   have hl : noR q l = false := by simp only [Bool.or_eq_false_iff] at hq; exact hq.2
   exact hj (h.one j i k l q hk p.lat e hl)
 · rfl
theorem take_ok {S : St} (h : Ok S) (r : Int) : Ok (takeS S r) := by
 by_cases hw : 0 ≤ whereV S.rows r
 · obtain ⟨i, v, l, p⟩ := take_at h hw
   exact p.ok h
 · rw [takeS_no (by omega)]; exact h
theorem take_tot {S : St} (h : Ok S) (r : Int) : totS (takeS S r) ≤ totS S := by
 by_cases hw : 0 ≤ whereV S.rows r
 · obtain ⟨i, v, l, p⟩ := take_at h hw
   rw [p.take]
   unfold totS
   rw [totR_set S.t _ p.vat p.lat]
   have := p.home
   omega
 · rw [takeS_no (by omega)]; omega
theorem take_gone {S : St} (h : Ok S) (r : Int) : whereV (takeS S r).rows r < 0 := by
 by_cases hw : 0 ≤ whereV S.rows r
 · obtain ⟨i, v, l, p⟩ := take_at h hw
   rw [p.take, where_neg]
   intro x hx
   obtain ⟨j, hj, e⟩ := List.getElem_of_mem hx
   have hg : (S.rows.set i (woL r l))[j]? = some x := by rw [← e]; exact List.getElem?_eq_getElem hj
   rcases set_get (List.getElem?_eq_some_iff.1 p.lat).1 hg with ⟨rfl, rfl⟩ | ⟨hji, h3⟩
   · rw [noR_woL]; simp
   · cases e2 : noR r x
     · exact absurd (h.one j i x l r h3 p.lat e2 p.has) hji
     · rfl
 · rw [takeS_no (by omega)]; omega
theorem putS_t (S : St) (r : Int) : (putS S r).t = S.t ∧ (putS S r).vs = S.vs := by
 unfold putS
 split
 · split <;> exact ⟨rfl, rfl⟩
 · exact ⟨rfl, rfl⟩
theorem takeS_t (S : St) (r : Int) : (takeS S r).t = S.t ∧ (takeS S r).vs = S.vs := by
 unfold takeS
 split
 · split <;> exact ⟨rfl, rfl⟩
 · exact ⟨rfl, rfl⟩
theorem where_put {S : St} (h : Ok S) {r : Int} (hp : priceE S r = 0) : 0 ≤ whereV (putS S r).rows r := (undo h hp).1
theorem where_of {S : St} (h : Ok S) {i : Nat} {l : List (Int × Int)} {r : Int} (hl : S.rows[i]? = some l) (hr : noR r l = false) : whereV S.rows r = i := by
 refine where_at hl hr fun x hx => ?_
 obtain ⟨j, hj, e⟩ := List.getElem_of_mem hx
 rw [List.length_take] at hj
 rw [List.getElem_take] at e
 cases h3 : noR r x
 · have hg : S.rows[j]? = some x := by rw [← e]; exact List.getElem?_eq_getElem (by omega)
   have := h.one j i x l r hg hl h3 hr
   omega
 · rfl
def newS (vs : List Vh) (t : List Rq) : St := ⟨vs, t, vs.map fun _ => []⟩
theorem new_ok {vs : List Vh} {t : List Rq} (hc : 1 ≤ vs.length ∧ vs.length ≤ 4) (ht : t.length ≤ 1000) (hq : ∀ q ∈ t, q.chk = 0) (hv : ∀ v ∈ vs, v.chk = 0) (he : ∀ v ∈ vs, errT v [] t = 0 ∧ fitE v [] t = 0) : Ok (newS vs t) := by
 have hrow : ∀ (i : Nat) l, (newS vs t).rows[i]? = some l → l = [] := fun i l h => by
  unfold newS at h
  simp only [List.getElem?_map, Option.map_eq_some_iff] at h
  obtain ⟨_, _, e⟩ := h
  exact e.symm
 refine ⟨by simp [newS], hc, ht, fun i v l hv' hl' => ?_, fun i j l m r hl hm h1 h2 => ?_⟩
 · obtain rfl := hrow i l hl'
   have hmem : v ∈ vs := List.mem_of_getElem? hv'
   exact ⟨⟨hv v hmem, hq, rfl, by simp, fun s hs => by cases hs⟩, (he v hmem).1, (he v hmem).2, fun s hs => by cases hs⟩
 · obtain rfl := hrow i l hl
   cases h1
end Go.Proofs.YtlbghdiebjldjaaGreatDoor.Plan
namespace Go.Proofs.YtlbghdiebjldjaaGreatDoor.Plan
open Go.RowKit Go.Proofs.YtlbghdiebjldjaaGreatDoor.Mem Go.Proofs.YtlbghdiebjldjaaGreatDoor.Route Go.Proofs.YtlbghdiebjldjaaGreatDoor.When Go.Proofs.YtlbghdiebjldjaaGreatDoor.Load
set_option linter.unusedVariables false
structure Chg (D : Nat → Prop) (W W' : World) : Prop where
 os : W'.os = W.os
 tape : W'.tape = W.tape
 output : W'.output = W.output
 size : W.heap.size ≤ W'.heap.size
 block : ∀ k, k < W.heap.size → ¬ D k → W'.heap[k]? = W.heap[k]?
theorem Chg.refl (D : Nat → Prop) (W : World) : Chg D W W := ⟨rfl, rfl, rfl, Nat.le_refl _, fun _ _ _ => rfl⟩
theorem Chg.trans {D : Nat → Prop} {A B C : World} (h : Chg D A B) (k : Chg D B C) : Chg D A C :=
 ⟨k.os.trans h.os, k.tape.trans h.tape, k.output.trans h.output, Nat.le_trans h.size k.size, fun i hi hD => (k.block i (Nat.lt_of_lt_of_le hi h.size) hD).trans (h.block i hi hD)⟩
theorem Chg.mono {D E : Nat → Prop} {A B : World} (h : Chg D A B) (hE : ∀ k, D k → E k) : Chg E A B := ⟨h.os, h.tape, h.output, h.size, fun i hi hD => h.block i hi (fun hd => hD (hE i hd))⟩
theorem Chg.of_below {D : Nat → Prop} {A B : World} (h : Below A.heap.size A B) : Chg D A B := ⟨h.os, h.tape, h.output, h.size, fun i hi _ => h.block i hi⟩
theorem Chg.of_grown {D : Nat → Prop} {A B : World} {row : Option Nat} (h : A.grownBy B row) (hr : ∀ r, row = some r → D r) : Chg D A B := ⟨h.os, h.tape, h.output, h.size, fun i hi hD => h.block i hi (fun e => hD (hr i e.symm))⟩
theorem Chg.set {D : Nat → Prop} (A : World) {g : Nat} (hg : D g) (i : Nat) (x : Value) : Chg D A (A.setCell ⟨g, i, none⟩ x) := ⟨rfl, rfl, rfl, by simp, fun k hk hD => Below.heap_setCell _ _ _ _ (by show k ≠ g; rintro rfl; exact hD hg)⟩
theorem Chg.below {D : Nat → Prop} {A B : World} (h : Chg D A B) {n : Nat} (hn : n ≤ A.heap.size) (hD : ∀ k, D k → n ≤ k) : Below n A B := ⟨h.os, h.tape, h.output, h.size, fun k hk => h.block k (by omega) (fun hd => by have := hD k hd; omega)⟩
theorem Chg.at_ {D : Nat → Prop} {A B : World} (h : Chg D A B) {g : Nat} {t : TypeId} {cs : Array Value} (hA : At A g t cs) (hg : ¬ D g) : At B g t cs := (h.block g hA.inside hg).trans hA
def Off (D : Nat → Prop) (v : Value) : Prop := ∀ g, v.ownBlock = some g → ¬ D g
theorem Off.mono {D E : Nat → Prop} {v : Value} (h : Off D v) (hE : ∀ k, E k → D k) : Off E v := fun g e hd => h g e (hE g hd)
theorem Chg.owns {D : Nat → Prop} {A B : World} (h : Chg D A B) {base size n : Nat} {e : TypeId} {v : Value} {xs : List Value} (ho : A.ownsRow base e size v n xs) (hv : Off D v) : B.ownsRow base e size v n xs := by
 obtain ⟨hl, h1 | ⟨g, cap, cur, rfl, hb, hg, hr⟩⟩ := ho
 · exact ⟨hl, .inl h1⟩
 · exact ⟨hl, .inr ⟨g, cap, cur, rfl, hb, (h.block g (Array.getElem?_eq_some_iff.1 hg).1 (hv g rfl)).trans hg, hr⟩⟩
def RowD (D : Nat → Prop) (W : World) (v : Value) (m : Nat) (rows : List (List Value)) : Prop := RowB W.heap.size W v m rows ∧ (rows ≠ [] → Off D v)
theorem RowD.chg {D E : Nat → Prop} {A B : World} {v : Value} {m : Nat} {rows : List (List Value)} (h : RowD D A v m rows) (hc : Chg E A B) (hE : ∀ k, E k → D k) : RowD D B v m rows := by
 obtain ⟨⟨x, cap, rfl, h1, h2, h0, h3⟩, ho⟩ := h
 refine ⟨⟨x, cap, rfl, h1, h2, h0, fun j r hj => ?_⟩, ho⟩
 obtain ⟨g, o, rfl, hg, hcell⟩ := h3 j r hj
 have hne : rows ≠ [] := by rintro rfl; simp at hj
 have hgD : ¬ E g := fun he => ho hne g rfl (hE g he)
 refine ⟨g, o, rfl, Nat.lt_of_lt_of_le hg hc.size, fun k u hk => ?_⟩
 rw [World.cell?_of_block (a := ⟨g, o + j * m + k, none⟩) (hc.block g hg hgD)]
 exact hcell k u hk
theorem RowD.more {D E : Nat → Prop} {A : World} {v : Value} {m : Nat} {rows : List (List Value)} (h : RowD D A v m rows) (hE : ∀ k, E k → D k ∨ A.heap.size ≤ k) : RowD E A v m rows := by
 refine ⟨h.1, fun hne g e he => ?_⟩
 rcases hE g he with hd | hd
 · exact h.2 hne g e hd
 · obtain ⟨x, cap, rfl, h1, h2, h0, h3⟩ := h.1
   cases rows with
   | nil => exact hne rfl
   | cons r rs =>
    obtain ⟨g', o, rfl, hg, -⟩ := h3 0 r rfl
    simp [Value.ownBlock] at e
    omega
theorem RowD.nil (D : Nat → Prop) (A : World) (m : Nat) : RowD D A (.slice none 0 0) m [] := ⟨RowB.nil _ _ _, fun h => absurd rfl h⟩
theorem RowD.new {D : Nat → Prop} {W : World} {v : Value} {m : Nat} {rows : List (List Value)} (h : RowB W.heap.size W v m rows) {n : Nat} (hn : ∀ r, v.ownBlock = some r → n ≤ r) (hD : ∀ k, D k → k < n) : RowD D W v m rows :=
 ⟨h, fun _ g e hd => by have := hn g e; have := hD g hd; omega⟩
def vhV (v : Vh) : List Value := [.int .i64 v.hx, .int .i64 v.hy, .int .i64 v.cp, .int .i64 v.st, .int .i64 v.en]
def Vhs (B : Nat) (W : World) (v : Value) (l : List Vh) : Prop := RowB B W v 5 (l.map vhV)
theorem Vhs.at {B : Nat} {W : World} {x : Option Addr} {n cap : Nat} {t : List Vh} (h : Vhs B W (.slice x n cap) t) {k : Nat} {q : Vh} (hk : t[k]? = some q) :
 ∃ g o, x = some ⟨g, o, none⟩ ∧ g < B ∧ (W.cell? ⟨g, o + k * 5, none⟩ = some (.int .i64 q.hx) ∧ W.cell? ⟨g, o + k * 5 + 1, none⟩ = some (.int .i64 q.hy) ∧ W.cell? ⟨g, o + k * 5 + 2, none⟩ = some (.int .i64 q.cp) ∧ W.cell? ⟨g, o + k * 5 + 3, none⟩ = some (.int .i64 q.st) ∧ W.cell? ⟨g, o + k * 5 + 4, none⟩ = some (.int .i64 q.en)) := by
 obtain ⟨g, o, e, hg, hc⟩ := RowB.row h (j := k) (r := vhV q) (by rw [List.getElem?_map, hk]; rfl)
 exact ⟨g, o, e, hg, hc 0 _ rfl, hc 1 _ rfl, hc 2 _ rfl, hc 3 _ rfl, hc 4 _ rfl⟩
theorem Vhs.opened {B : Nat} {W : World} {v : Value} {t : List Vh} (h : Vhs B W v t) : ∃ x N cap, v = .slice x N cap ∧ t.length = N ∧ N ≤ cap ∧ cap ≤ maxLen ∧ (x = none → t = []) := by
 obtain ⟨x, cap, rfl, h1, h2, h0, _⟩ := h
 refine ⟨x, t.length, cap, by simp, rfl, by simpa using h1, h2, fun e => ?_⟩
 have := h0 e
 simpa using this.1
theorem Vhs.keep {B C : Nat} {W W' : World} {v : Value} {l : List Vh} (h : Vhs B W v l) (hb : Below C W W') (hB : B ≤ C) : Vhs B W' v l := RowB.keep h hb hB
theorem Vhs.on {W W' : World} {v : Value} {l : List Vh} (h : Vhs W.heap.size W v l) (hb : Below W.heap.size W W') : Vhs W'.heap.size W' v l := RowB.on h hb
structure RefAt (D : Nat → Prop) (lo : Nat) (W : World) (p gr : Nat) (vf vt : Value) (cap : Nat) (us : List Value) (S : St) : Prop where
 box : At W p 89 #[vf, vt, .slice (some ⟨gr, 0, none⟩) S.rows.length cap]
 vs : RowD D W vf 5 (S.vs.map vhV)
 t : RowD D W vt 10 (S.t.map rqV)
 own : W.ownsRow lo 59 1 (.slice (some ⟨gr, 0, none⟩) S.rows.length cap) S.rows.length us
 rows : ∀ (i : Nat) u l, us[i]? = some u → S.rows[i]? = some l → RowD D W u 2 (l.map stV)
 pd : ¬ D p
 gd : D gr
 lt : ∀ k, D k → k < W.heap.size
theorem RefAt.len {D : Nat → Prop} {lo : Nat} {W : World} {p gr : Nat} {vf vt : Value} {cap : Nat} {us : List Value} {S : St} (h : RefAt D lo W p gr vf vt cap us S) : us.length = S.rows.length := by have := h.own.1; omega
theorem RefAt.chg {D E : Nat → Prop} {lo : Nat} {W W' : World} {p gr : Nat} {vf vt : Value} {cap : Nat} {us : List Value} {S : St} (h : RefAt D lo W p gr vf vt cap us S) (hc : Chg E W W') (hE : ∀ k, E k → D k ∧ k ≠ gr) : RefAt D lo W' p gr vf vt cap us S :=
 ⟨hc.at_ h.box (fun he => h.pd (hE p he).1), h.vs.chg hc (fun k he => (hE k he).1), h.t.chg hc (fun k he => (hE k he).1), hc.owns h.own (fun g e he => by simp [Value.ownBlock] at e; exact (hE g he).2 e.symm),
  fun i u l hu hl => (h.rows i u l hu hl).chg hc (fun k he => (hE k he).1), h.pd, h.gd, fun k hd => Nat.lt_of_lt_of_le (h.lt k hd) hc.size⟩
theorem RefAt.on {D : Nat → Prop} {lo : Nat} {W W' : World} {p gr : Nat} {vf vt : Value} {cap : Nat} {us : List Value} {S : St} (h : RefAt D lo W p gr vf vt cap us S) (hb : Below W.heap.size W W') : RefAt D lo W' p gr vf vt cap us S :=
 h.chg (E := fun _ => False) (Chg.of_below hb) (fun k he => he.elim)
theorem RefAt.cell {D : Nat → Prop} {lo : Nat} {W : World} {p gr : Nat} {vf vt : Value} {cap : Nat} {us : List Value} {S : St} (h : RefAt D lo W p gr vf vt cap us S) {i : Nat} {u : Value} (hu : us[i]? = some u) : W.cell? ⟨gr, i, none⟩ = some u := by
 have hi := (List.getElem?_eq_some_iff.1 hu).1
 rw [h.len] at hi
 rw [h.own.cellAt i (by omega)]
 exact hu
theorem RefAt.at_ {D : Nat → Prop} {lo : Nat} {W : World} {p gr : Nat} {vf vt : Value} {cap : Nat} {us : List Value} {S : St} (h : RefAt D lo W p gr vf vt cap us S) {i : Nat} {l : List (Int × Int)} (hl : S.rows[i]? = some l) : ∃ u, us[i]? = some u ∧ W.cell? ⟨gr, i, none⟩ = some u ∧ Row W.heap.size W u l := by
 have hi := (List.getElem?_eq_some_iff.1 hl).1
 rw [← h.len] at hi
 exact ⟨us[i], List.getElem?_eq_getElem hi, h.cell (List.getElem?_eq_getElem hi), (h.rows i _ l (List.getElem?_eq_getElem hi) hl).1⟩
theorem RefAt.grIn {D : Nat → Prop} {lo : Nat} {W : World} {p gr : Nat} {vf vt : Value} {cap : Nat} {us : List Value} {S : St} (h : RefAt D lo W p gr vf vt cap us S) : gr < W.heap.size := (World.ownsRow.lt h.own gr rfl).2
theorem RefAt.bd {D : Nat → Prop} {lo : Nat} {W : World} {p gr : Nat} {vf vt : Value} {cap : Nat} {us : List Value} {S : St} (h : RefAt D lo W p gr vf vt cap us S) : S.rows.length ≤ cap ∧ cap ≤ maxLen := by
 obtain ⟨hl, ⟨h1, _⟩ | ⟨g, c, cur, e, hb, hg, hc1, hc2, hs, ht⟩⟩ := h.own
 · cases h1
 · cases e; exact ⟨hc1, hc2⟩
theorem RefAt.put {D : Nat → Prop} {lo : Nat} {W : World} {p gr : Nat} {vf vt : Value} {cap : Nat} {us : List Value} {S : St} (h : RefAt D lo W p gr vf vt cap us S) {i : Nat} (hi : i < S.rows.length) {u : Value} {m : List (Int × Int)} (hm : RowD D W u 2 (m.map stV)) :
 RefAt D lo (W.setCell ⟨gr, i, none⟩ u) p gr vf vt cap (us.set i u) { S with rows := S.rows.set i m } := by
 have hc : Chg (fun k => k = gr) W (W.setCell ⟨gr, i, none⟩ u) := Chg.set (D := fun k => k = gr) W (g := gr) rfl i u
 have hE : ∀ k, k = gr → D k := fun k e => by rw [e]; exact h.gd
 refine ⟨?_, h.vs.chg hc hE, h.t.chg hc hE, ?_, ?_, h.pd, h.gd, fun k hd => by simpa using h.lt k hd⟩
 · simp only [List.length_set]
   exact hc.at_ h.box (fun e => h.pd (hE _ e))
 · simp only [List.length_set]
   have := (h.own.stored i u).1
   simpa using this
 · intro j u' l' hu' hl'
   have hlu : i < us.length := by rw [h.len]; exact hi
   rcases set_get hlu hu' with ⟨rfl, rfl⟩ | ⟨hj, h1⟩
   · rcases set_get hi hl' with ⟨_, rfl⟩ | ⟨h2, _⟩
     · exact hm.chg hc hE
     · exact absurd rfl h2
   · rcases set_get hi hl' with ⟨h2, _⟩ | ⟨_, h2⟩
     · exact absurd h2 hj
     · exact (h.rows j u' l' h1 h2).chg hc hE
end Go.Proofs.YtlbghdiebjldjaaGreatDoor.Plan
