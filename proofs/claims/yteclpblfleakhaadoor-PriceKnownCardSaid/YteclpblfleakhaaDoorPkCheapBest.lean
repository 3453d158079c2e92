import Derived.Test.YteclpblfleakhaaDoorPkUpB

namespace Go.Proofs.YteclpblfleakhaaDoor.Cheap
open Go.RowKit Go.Sort Go.Shelf Go.Proofs.YteclpblfleakhaaDoor.Mem Go.Proofs.YteclpblfleakhaaDoor.Route Go.Proofs.YteclpblfleakhaaDoor.When Go.Proofs.YteclpblfleakhaaDoor.Load Go.Proofs.YteclpblfleakhaaDoor.Ins Go.Proofs.YteclpblfleakhaaDoor.Up
set_option linter.unusedVariables false
structure BestI (w : World) (q : Nat) (v : Vh) (ws : List Wy) (W : World) : Prop where
 hv : At W q 47 #[.int .i64 v.hx, .int .i64 v.hy, .int .i64 v.cp, .int .i64 v.st, .int .i64 v.en]
 res : At W (q + 1) 116 #[.int .i64 0, .int .i64 0, .int .i64 0]
 best : At W (q + 2) 116 (encW (leastW ws))
 below : Below q w W
theorem BestI.old {w : World} {q m : Nat} {v : Vh} (hm : q ≤ m) : Old m (BestI w q v) := by
 rintro ws A A' row h hg hr
 exact ⟨At.oldCells h.hv hg hr, At.oldCells h.res hg hr, At.oldCells h.best hg hr, h.below.grown hg (Nat.le_of_lt h.hv.inside) (fun k e => by have := (hr k e).1; omega)⟩
theorem res_way2 {fn : Func} {p k : Tmp} (h : fn.results = #[.cell p 116, .tmp k]) {tmps : Array Value} {w : World} {g : Nat} {x0 x1 x2 u : Value} (hp : tmps.getD p undef = .pointer (some ⟨g, 0, none⟩)) (hk : tmps.getD k undef = u)
 (hA : At w g 116 #[x0, x1, x2]) : (results fn tmps).run Tryd.prog w = .ok (.tuple #[.agg #[x0, x1, x2], u]) w := by
 have hp' : tmps[p]?.getD undef = .pointer (some ⟨g, 0, none⟩) := by simpa using hp
 have hk' : tmps[k]?.getD undef = u := by simpa using hk
 have c0 := hA.cell 0
 have c1 := hA.cell 1
 have c2 := hA.cell 2
 simp at c0 c1 c2
 simp only [results, h]
 go_simp
 try rw [hk']
theorem ret_best {a b : Wy} {c d : Int} (h : a = b) (h2 : c = d) : Ending.returned (.tuple #[.agg (encW a), .int .i64 c]) = .returned (.tuple #[.agg (encW b), .int .i64 d]) := by rw [h, h2]
theorem way_eq {a : Wy} : (decide (a.i = -1) && (decide (a.j = -1) && decide (a.n = 9223372036854775807))) = decide (a = noW) := by
 cases a
 simp [noW]
theorem eq_way (a b c d e f : Int) (w : World) : Sem.run Tryd.prog (Op.equalIn 10000 116 (Value.agg #[.int .i64 a, .int .i64 b, .int .i64 c]) (Value.agg #[.int .i64 d, .int .i64 e, .int .i64 f])) w = .ok (decide (a = d) && (decide (b = e) && decide (c = f))) w := by
 unfold Op.equalIn
 simp [go_sem]
 by_cases h1 : a = d <;> by_cases h2 : b = e <;> by_cases h3 : c = f <;> simp [h1, h2, h3]
set_option maxRecDepth 100000 in
set_option maxHeartbeats 8000000 in
theorem Best_any (v : Vh) (vl vt : Value) (l : List (Int × Int)) (t : List Rq) (hll : l.length ≤ 1000000) (hnum : Nums l) (r : Int) (w : World) (hsg : Sg w) (hL : Row w.heap.size w vl l) (hT : Rqs w.heap.size w vt t) :
 Calls Tryd.prog 44 #[.agg #[.int .i64 v.hx, .int .i64 v.hy, .int .i64 v.cp, .int .i64 v.st, .int .i64 v.en], vl, vt, .int .i64 r] w fun e w' =>
  e = .returned (.tuple #[.agg (encW (bestW v l t r)), .int .i64 (bestE v l t r)]) ∧ Below w.heap.size w w' := by
 obtain ⟨q, hq⟩ : ∃ q, w.heap.size = q := ⟨_, rfl⟩
 obtain ⟨n0, n1, n2⟩ := hsg.none
 obtain ⟨w1, hw1⟩ : ∃ w1, (w.alloc (.cells #[.int .i64 v.hx, .int .i64 v.hy, .int .i64 v.cp, .int .i64 v.st, .int .i64 v.en] 47)).alloc (.cells #[.int .i64 0, .int .i64 0, .int .i64 0] 116) = w1 := ⟨_, rfl⟩
 have hs1 : w1.heap.size = q + 2 := by rw [← hw1]; simp [hq]
 have hv1 : At w1 q 47 #[.int .i64 v.hx, .int .i64 v.hy, .int .i64 v.cp, .int .i64 v.st, .int .i64 v.en] := by rw [← hw1]; exact (At.new_ _ _ _ hq.symm).alloc _
 have hr1 : At w1 (q + 1) 116 #[.int .i64 0, .int .i64 0, .int .i64 0] := by rw [← hw1]; exact At.new_ _ _ _ (by simp [hq])
 have hb1 : Below q w w1 := by rw [← hw1]; exact ((Below.refl _ _).alloc (by omega) _).alloc (by simp; omega) _
 have hsg1 := hsg.on (by rw [hq]; exact hb1)
 obtain ⟨g0, g1, g2⟩ := hsg1.none
 obtain ⟨w2, hw2⟩ : ∃ w2, w1.alloc (.cells #[.int .i64 (-1), .int .i64 (-1), .int .i64 9223372036854775807] 116) = w2 := ⟨_, rfl⟩
 have hs2 : w2.heap.size = q + 3 := by rw [← hw2]; simp [hs1]
 have hI2 : BestI w q v [] w2 := by
  rw [← hw2]
  exact ⟨hv1.alloc _, hr1.alloc _, At.new_ _ _ _ hs1.symm, hb1.alloc (by omega) _⟩
 have hEach := each_any v vl vt l t hll hnum r 65 (.pointer (some ⟨q + 2, 0, none⟩)) (BestI w q v) w2 (BestI.old (by omega)) hI2 keep_in
  (fun ws A hI _ => ⟨((hL.keep (by rw [hq]; exact hI.below) (Nat.le_refl _)).more (by omega)), ((hT.keep (by rw [hq]; exact hI.below) (Nat.le_refl _)).more (by omega)), hsg.on (by rw [hq]; exact hI.below)⟩)
  (fun ws y A hI hA => (keep_any (q + 2) (leastW ws) y A hI.best).mono (by
   rintro e A' ⟨hu, hat, A1, hA1, rfl⟩
   have hsz := hA1.size
   refine ⟨hu, ⟨?_, ?_, ?_, ?_⟩, ?_⟩
   · exact (((hI.hv.keep hA1 (by omega)).far (by omega) _ _).far (by omega) _ _).far (by omega) _ _
   · exact (((hI.res.keep hA1 (by omega)).far (by omega) _ _).far (by omega) _ _).far (by omega) _ _
   · rw [leastW_snoc]; exact hat
   · exact (((hI.below.trans (hA1.mono (by omega))).setCell (by simp) _).setCell (by simp) _).setCell (by simp) _
   · refine ⟨by simpa using hsz, fun k hk1 hk2 => ?_⟩
     exact (Below.heap_setCell _ _ _ _ (by simp; omega)).trans ((Below.heap_setCell _ _ _ _ (by simp; omega)).trans ((Below.heap_setCell _ _ _ _ (by simp; omega)).trans (hA1.block k hk2)))))
 have a0 := hv1.cell 0
 have a1 := hv1.cell 1
 have a2 := hv1.cell 2
 have a3 := hv1.cell 3
 have a4 := hv1.cell 4
 have p0 := hI2.hv.cell 0
 have p1 := hI2.hv.cell 1
 have p2 := hI2.hv.cell 2
 have p3 := hI2.hv.cell 3
 have p4 := hI2.hv.cell 4
 simp at a0 a1 a2 a3 a4 p0 p1 p2 p3 p4
 obtain ⟨xl, Nl, capl, rfl, hNl, -⟩ := hL.opened
 obtain ⟨xt, Nt, capt, rfl, -⟩ := hT.opened
 obtain ⟨H, hH⟩ : ∃ H, headE v l t r = H := ⟨_, rfl⟩
 rw [hH] at hEach
 have hH' := Lib.hid hH
 have hq' := Lib.hid hq
 have hw1' := Lib.hid hw1
 have hw2' := Lib.hid hw2
 have hs1' := Lib.hid hs1
 have hsg' := Lib.hid hsg
 clear hH hq hw1 hw2 hsg hsg1 hI2 hL hT hNl hv1 hr1 hb1 n0 n1 n2
 go_enter Tryd.func44, Tryd.ntmps44
 go_upto_region 1 with fail
 try simp only [hq'.out]
 try rw [hw1'.out]
 go_upto_region 2 with fail
 try simp only [hs1'.out]
 rw [hw2'.out]
 go_wp2_with fail
 refine hEach.mono ?_
 clear hEach a0 a1 a2 a3 a4 p0 p1 p2 p3 p4 g0 g1 g2
 rintro e w3 ⟨rfl, hI3, hs3⟩
 have b0 := hI3.best.cell 0
 have b1 := hI3.best.cell 1
 have b2 := hI3.best.cell 2
 have r0 := hI3.res.cell 0
 have r1 := hI3.res.cell 1
 have r2 := hI3.res.cell 2
 have rf := hI3.res.free
 simp [encW] at b0 b1 b2 r0 r1 r2
 obtain ⟨g0, g1, g2⟩ := (hsg'.out.on (by rw [hq'.out]; exact hI3.below)).none
 have hI3' := Lib.hid hI3
 have hss : q + 2 < w3.heap.size := hI3.best.inside
 clear hI3
 obtain ⟨L, hLw⟩ : ∃ L, leastW (eachL v l t r) = L := ⟨_, rfl⟩
 rw [hLw] at b0 b1 b2
 have hLw' := Lib.hid hLw
 clear hLw
 cases hh : (H == 0)
 · have hh1 : (H != 0) = true := by simpa using hh
   have he := Lib.hid (show bestE v l t r = H by rw [bestE_head (by rw [hH'.out]; simpa using hh), hH'.out])
   have hwn := Lib.hid (bestW_no (v := v) (l := l) (t := t) (r := r) (by rw [he.out]; simpa using hh))
   go_wp2
   refine bodyPost_ret (res_way2 rfl rfl rfl (by exact put3 hI3'.out.res)) rfl ?_
   exact ⟨ret_best (a := ⟨0, 0, 0⟩) hwn.out.symm he.out.symm, by rw [hq'.out]; exact ((hI3'.out.below.setCell (by simp) _).setCell (by simp) _).setCell (by simp) _⟩
 · have hh1 : (H != 0) = false := by simpa using hh
   have hz := Lib.hid (show headE v l t r = 0 by rw [hH'.out]; simpa using hh)
   have heq := eq_way
   have hno := Lib.hid (least_none (each_small v l t r))
   cases hn : (decide (L.i = -1) && (decide (L.j = -1) && decide (L.n = 9223372036854775807)))
   · have hne := Lib.hid (show bestE v l t r = 0 from bestE_ok hz.out (fun e => by
      have e2 := hno.out.2 e
      rw [hLw'.out] at e2
      rw [way_eq, e2] at hn
      simp at hn))
     have hwn := Lib.hid (show bestW v l t r = L by rw [bestW_ok hne.out, hLw'.out])
     go_wp2
     refine bodyPost_ret (res_way2 rfl rfl rfl (by exact put3 hI3'.out.res)) rfl ?_
     exact ⟨ret_best (a := L) hwn.out.symm hne.out.symm, by rw [hq'.out]; exact ((hI3'.out.below.setCell (by simp) _).setCell (by simp) _).setCell (by simp) _⟩
   · have he2 := Lib.hid (show bestE v l t r = 12 from bestE_none hz.out (hno.out.1 (by
      rw [hLw'.out]
      rw [way_eq] at hn
      simpa using hn)))
     have hwn := Lib.hid (bestW_no (v := v) (l := l) (t := t) (r := r) (by rw [he2.out]; omega))
     go_wp2
     refine bodyPost_ret (res_way2 rfl rfl rfl (by exact put3 hI3'.out.res)) rfl ?_
     exact ⟨ret_best (a := ⟨0, 0, 0⟩) hwn.out.symm he2.out.symm, by rw [hq'.out]; exact ((hI3'.out.below.setCell (by simp) _).setCell (by simp) _).setCell (by simp) _⟩
def putC (v : Vh) (l : List (Int × Int)) (t : List Rq) (r : Int) : List (Int × Int) := moreL l r (bestW v l t r).i (bestW v l t r).j
def PutOk (w W : World) (u : Value) (v : Vh) (l : List (Int × Int)) (t : List Rq) (r : Int) : Prop :=
 if bestE v l t r = 0 then Row W.heap.size W u (putC v l t r) ∧ New w.heap.size u else u = .slice none 0 0
theorem ret_put {u : Value} {a b c d : Int} (h : a = b) (h2 : c = d) : Ending.returned (.tuple #[u, .int .i64 a, .int .i64 c]) = .returned (.tuple #[u, .int .i64 b, .int .i64 d]) := by rw [h, h2]
set_option maxRecDepth 100000 in
set_option maxHeartbeats 8000000 in
theorem Put_any (v : Vh) (vl vt : Value) (l : List (Int × Int)) (t : List Rq) (hll : l.length ≤ 1000000) (hnum : Nums l) (r : Int) (w : World) (hsg : Sg w) (hL : Row w.heap.size w vl l) (hT : Rqs w.heap.size w vt t) :
 Calls Tryd.prog 36 #[.agg #[.int .i64 v.hx, .int .i64 v.hy, .int .i64 v.cp, .int .i64 v.st, .int .i64 v.en], vl, vt, .int .i64 r] w fun e w' =>
  (∃ u, e = .returned (.tuple #[u, .int .i64 (bestW v l t r).n, .int .i64 (bestE v l t r)]) ∧ PutOk w w' u v l t r) ∧ Below w.heap.size w w' := by
 obtain ⟨q, hq⟩ : ∃ q, w.heap.size = q := ⟨_, rfl⟩
 obtain ⟨w1, hw1⟩ : ∃ w1, w.alloc (.cells #[.int .i64 v.hx, .int .i64 v.hy, .int .i64 v.cp, .int .i64 v.st, .int .i64 v.en] 47) = w1 := ⟨_, rfl⟩
 have hs1 : w1.heap.size = q + 1 := by rw [← hw1]; simp [hq]
 have hv1 : At w1 q 47 #[.int .i64 v.hx, .int .i64 v.hy, .int .i64 v.cp, .int .i64 v.st, .int .i64 v.en] := by rw [← hw1]; exact At.new_ _ _ _ hq.symm
 have hb1 : Below q w w1 := by rw [← hw1]; exact (Below.refl _ _).alloc (by omega) _
 have hL1 := ((hL.keep (by rw [hq]; exact hb1) (Nat.le_refl _)).more (by omega : w.heap.size ≤ w1.heap.size))
 have hT1 := ((hT.keep (by rw [hq]; exact hb1) (Nat.le_refl _)).more (by omega : w.heap.size ≤ w1.heap.size))
 have hB := Best_any v vl vt l t hll hnum r w1 (hsg.on (by rw [hq]; exact hb1)) hL1 hT1
 have a0 := hv1.cell 0
 have a1 := hv1.cell 1
 have a2 := hv1.cell 2
 have a3 := hv1.cell 3
 have a4 := hv1.cell 4
 simp at a0 a1 a2 a3 a4
 obtain ⟨xl, Nl, capl, rfl, hNl, -⟩ := hL.opened
 obtain ⟨xt, Nt, capt, rfl, -⟩ := hT.opened
 obtain ⟨B, hBw⟩ : ∃ B, bestW v l t r = B := ⟨_, rfl⟩
 obtain ⟨E, hEe⟩ : ∃ E, bestE v l t r = E := ⟨_, rfl⟩
 rw [hBw, hEe] at hB ⊢
 unfold encW at hB
 have hin := Lib.hid (fun h : E = 0 => (by have := (best_in (hEe.trans h)).1; rw [hBw] at this; exact (withE_zero (riseE_zero this).1).2.2.2.2 : mayW l r B.i B.j = true))
 have hno := Lib.hid (fun h : E ≠ 0 => (by rw [← hBw]; exact bestW_no (by rw [hEe]; exact h) : B = ⟨0, 0, 0⟩))
 have hpc := Lib.hid (show putC v l t r = moreL l r B.i B.j by unfold putC; rw [hBw])
 have hE' := Lib.hid hEe
 have hq' := Lib.hid hq
 have hw1' := Lib.hid hw1
 have hs1' := Lib.hid hs1
 have hb1' := Lib.hid hb1
 have hL' := Lib.hid hL1
 have hll' := Lib.hid hll
 clear hBw hEe hq hw1 hsg hL hT hNl hb1 hnum hL1 hT1 hll
 go_enter Tryd.func36, Tryd.ntmps36
 go_upto_region 1 with fail
 try simp only [hq'.out]
 try rw [hw1'.out]
 go_wp2_with fail
 refine hB.mono ?_
 clear hB a0 a1 a2 a3 a4
 rintro e w2 ⟨rfl, hb2⟩
 have hB2 := hb1'.out.trans (hb2.mono (by omega : q ≤ w1.heap.size))
 have hL2 := Lib.hid ((hL'.out.keep hb2 (Nat.le_refl _)).more hb2.size)
 have hB2' := Lib.hid hB2
 have hs2 : q + 1 ≤ w2.heap.size := by have := hb2.size; omega
 clear hb2 hv1 hB2
 obtain ⟨m, hm⟩ : ∃ m, w2.heap.size = m := ⟨_, rfl⟩
 have hm' := Lib.hid hm
 obtain ⟨w3, hw3⟩ : ∃ w3, w2.alloc (.cells #[.int .i64 B.i, .int .i64 B.j, .int .i64 B.n] 116) = w3 := ⟨_, rfl⟩
 have hs3 : w3.heap.size = m + 1 := by rw [← hw3]; simp [hm]
 have hA3 : At w3 m 116 #[.int .i64 B.i, .int .i64 B.j, .int .i64 B.n] := by rw [← hw3]; exact At.new_ _ _ _ hm.symm
 have hb3 : Below m w2 w3 := by rw [← hw3]; exact (Below.refl _ _).alloc (by omega) _
 have hB3 := Lib.hid (hB2'.out.trans (hb3.mono (by omega : q ≤ m)))
 have hL3 := Lib.hid ((hL2.out.keep (by rw [hm]; exact hb3) (Nat.le_refl _)).more (by omega : w2.heap.size ≤ w3.heap.size))
 have hWith := With_any _ l r B.i B.j hll'.out w3 hL3.out
 have c0 := hA3.cell 0
 have c1 := hA3.cell 1
 simp at c0 c1
 have hw3' := Lib.hid hw3
 clear hw3 hm hb3
 cases he0 : (E == 0)
 · have he1 : (E != 0) = true := by simpa using he0
   clear hWith
   have hne : E ≠ 0 := by simpa using he0
   have hBz := Lib.hid (show B.n = 0 by rw [hno.out hne])
   have hB4 := Lib.hid hB3
   go_wp2
   refine bodyPost_ret (v := .tuple #[.slice none 0 0, .int .i64 0, .int .i64 E]) (by simp [results, Tryd.results36, go_sem]) rfl ?_
   try simp only [hw3'.out]
   exact ⟨⟨_, ret_put hBz.out.symm rfl, by unfold PutOk; rw [hE'.out, if_neg hne]⟩, by rw [hq'.out]; exact hB3.out⟩
 · have he1 : (E != 0) = false := by simpa using he0
   have hz : E = 0 := by simpa using he0
   have hmay := hin.out hz
   rw [hmay] at hWith
   have hmo := Lib.hid (withV_more hmay)
   go_upto_region 2 with fail
   try simp only [hm'.out]
   try rw [hw3'.out]
   go_wp2_with fail
   refine hWith.mono ?_
   clear hWith c0 c1
   rintro e w4 ⟨⟨u, rfl, hu, hnew⟩, hb4⟩
   have hA4 := hA3.keep hb4 (by omega)
   have hB4 := Lib.hid (hB3.out.trans (hb4.mono (by have := hm'.out; omega : q ≤ w3.heap.size)))
   obtain ⟨xu, Nu, cu, rfl, -⟩ := hu.opened
   have c2 := hA4.cell 2
   simp at c2
   have hs4 : m < w4.heap.size := hA4.inside
   have hu' := Lib.hid hu
   have hnew' := Lib.hid hnew
   clear hb4 hu hnew hA4
   have hs34 : q ≤ w3.heap.size := by have := hm'.out; omega
   go_upto_region 5 with fail
   go_quiet (fail)
   go_wp2
   refine bodyPost_ret (v := .tuple #[.slice xu Nu cu, .int .i64 B.n, .int .i64 0]) (by simp [results, Tryd.results36, go_sem]) rfl ?_
   refine ⟨⟨_, ret_put rfl hz.symm, ?_⟩, by rw [hq'.out]; exact Load.below_drewN hB4.out nq⟩
   unfold PutOk
   rw [hE'.out, if_pos hz, hpc.out, ← hmo.out]
   exact ⟨hu'.out.on (Load.below_drewN (Below.refl _ _) nq), hnew'.out.more (by rw [hq'.out]; exact hs34)⟩
end Go.Proofs.YteclpblfleakhaaDoor.Cheap
