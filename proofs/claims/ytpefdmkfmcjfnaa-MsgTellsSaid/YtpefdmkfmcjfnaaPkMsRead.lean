import Derived.Test.YtpefdmkfmcjfnaaPkFrLay
import Derived.Test.YtpefdmkfmcjfnaaPkMsBare

namespace Go.Proofs.Ytpefdmkfmcjfnaa.Ms
open Go.RowKit Go.Sort Go.Proofs.Ytpefdmkfmcjfnaa.Mem Go.Proofs.Ytpefdmkfmcjfnaa.Route Go.Proofs.Ytpefdmkfmcjfnaa.Oct Go.Proofs.Ytpefdmkfmcjfnaa.Part Go.Proofs.Ytpefdmkfmcjfnaa.Dr
set_option linter.unusedVariables false
theorem set_st (m : Ms) (v : Value) (x : Int) (h : m.dig.length = 32) : (msC m v).set 50 (.int .i64 x) = msC { m with oc := { m.oc with st := x } } v := by
 rw [ms_hd, ms_hd, List.set_append_right 50 _ (by rw [hd_len h]; omega), hd_len h]
 rfl
theorem set_wn (m : Ms) (v : Value) (x : Int) (h : m.dig.length = 32) : (msC m v).set 51 (.int .i64 x) = msC { m with oc := { m.oc with wn := x } } v := by
 rw [ms_hd, ms_hd, List.set_append_right 51 _ (by rw [hd_len h]; omega), hd_len h]
 rfl
theorem set_pr (m : Ms) (v : Value) (x : Nat) (h : m.dig.length = 32) : (msC m v).set 52 (.int .u64 (x : Int)) = msC { m with oc := { m.oc with pr := x } } v := by
 rw [ms_hd, ms_hd, List.set_append_right 52 _ (by rw [hd_len h]; omega), hd_len h]
 rfl
def readR (k : Int) (N : Nat) (s : St) : Ms × St :=
 let z := { z0 with kind := k, rnd := (N : Int) }
 if k = 1 then
  let a := numS s 1
  let b := numS a.2 4
  let q := rqS b.2
  ({ z with req := (a.1 : Int), rsv := (b.1 : Int), rq := q.1 }, q.2)
 else if k = 2 then
  let a := numS s 1
  let d := digS 32 a.2
  ({ z with car := (a.1 : Int), dig := d.1 }, d.2)
 else if k = 3 then
  let a := numS s 1
  let l := markS a.1 a.2
  ({ z with marks := l.1 }, l.2)
 else if k = 4 then
  let a := numS s 1
  let b := numS a.2 8
  let c := numS b.2 8
  ({ z with car := (a.1 : Int), bid := b.1, nonce := c.1 }, c.2)
 else if k = 5 then
  let a := numS s 1
  let b := numS a.2 1
  let c := numS b.2 8
  ({ z with oc := ⟨(a.1 : Int), (b.1 : Int) - 1, c.1⟩ }, c.2)
 else (z, s)
def ReadOk (m : Ms) (st : St) (g : Nat) (w : World) (e : Ending) (w' : World) : Prop := ∃ v, e = .returned (.agg (msC m v).toArray) ∧ MarksAt w'.heap.size w' v m.marks ∧ RfAt w' g st ∧ w.grownBy w' (some g)
structure Rds (n p g : Nat) (w : World) (m : Ms) (v : Value) (st : St) (W : World) : Prop where
 res : AtL W n 42 (msC z0 nilS)
 msg : AtL W p 42 (msC m v)
 rd : RfAt W g st
 chg : Chg n g w W
theorem Rds.call {n p g : Nat} {w W V : World} {m : Ms} {v : Value} {s t : St} (h : Rds n p g w m v s W) (hR : RfAt V g t) (hg : W.grownBy V (some g)) (hgn : g < n) (hnp : n < p) : Rds n p g w m v t V :=
 ⟨atL_grown h.res hg (by omega), atL_grown h.msg hg (by omega), hR, h.chg.trans (chg_grown hg (Nat.le_of_lt h.res.inside))⟩
theorem Rds.put {n p g : Nat} {w W : World} {m m' : Ms} {v v' : Value} {s : St} (h : Rds n p g w m v s W) (i : Nat) (x : Value) (he : (msC m v).set i x = msC m' v') (hgn : g < n) (hnp : n < p) : Rds n p g w m' v' s (W.setCell ⟨p, i, none⟩ x) :=
 ⟨h.res.far (by omega) i x, by have := h.msg.put i x; rwa [he] at this, h.rd.keep (below_set (Below.refl n W) (Nat.le_of_lt hnp) i x) hgn, h.chg.set (.inl (Nat.le_of_lt hnp)) i x⟩
theorem Rds.putAll {n p g : Nat} {w W : World} {m m' : Ms} {v v' : Value} {s : St} (h : Rds n p g w m v s W) (i : Nat) (cs : List Value) (he : putL (msC m v) i cs = msC m' v') (hgn : g < n) (hnp : n < p) : Rds n p g w m' v' s (W.setRow p (putL (msC m v) i cs).toArray) :=
 ⟨h.res.rowFar (by omega) _, by have := h.msg.row (putL (msC m v) i cs); rwa [he] at this ⊢, h.rd.keep (below_row (Below.refl n W) (Nat.le_of_lt hnp) _) hgn, h.chg.row (.inl (Nat.le_of_lt hnp)) _⟩
set_option maxRecDepth 100000 in
set_option maxHeartbeats 16000000 in
theorem read_any (k : Int) (g : Nat) (st : St) (w : World) (h : RfAt w g st) (hk : k ≠ 3) :
 Calls Try.prog 33 #[.pointer (some ⟨g, 0, none⟩), .int .i64 k] w fun e w' => ReadOk (readS k st).1 (readS k st).2 g w e w' := by
 have hgi := h.inside
 obtain ⟨n, hn⟩ : ∃ n, w.heap.size = n := ⟨_, rfl⟩
 have hC0 := (Chg.refl n g w).alloc (by omega) (.cells (msC z0 nilS).toArray 42)
 have hO0 : AtL (w.alloc (.cells (msC z0 nilS).toArray 42)) n 42 (msC z0 nilS) := by have := AtL.new w 42 (msC z0 nilS); rwa [hn] at this
 have hR0 : RfAt (w.alloc (.cells (msC z0 nilS).toArray 42)) g st := h.keep ((Below.refl w.heap.size w).alloc (Nat.le_refl _) _) hgi
 rw [hn] at hgi
 go_enter Try.func33, Try.ntmps33
 go_upto_region 1 with fail
 rw [z0_lit]
 generalize w.alloc (.cells (msC z0 nilS).toArray 42) = W0 at *
 replace hn := Lib.hid hn
 have hnum := Lib.hid (small_any 1 (by omega) g st W0 hR0)
 obtain ⟨N0, hN0⟩ : ∃ N, (numS st 1).1 = N := ⟨_, rfl⟩
 obtain ⟨s0, hs0⟩ : ∃ s, (numS st 1).2 = s := ⟨_, rfl⟩
 simp only [hN0, hs0] at hnum
 have hrd := Lib.hid (show readS k st = readR k N0 s0 by rw [← hN0, ← hs0]; rfl)
 clear hN0 hs0
 replace hR0 := Lib.hid hR0
 go_wp2_with fail
 refine hnum.out.mono ?_
 rintro e W1 ⟨rfl, hR1, hg1⟩
 have hO1 := atL_grown hO0 hg1 (by omega)
 have hC1 := hC0.trans (chg_grown hg1 (Nat.le_of_lt hO0.inside))
 obtain ⟨q, hq⟩ : ∃ q, W1.heap.size = q := ⟨_, rfl⟩
 have hnq : n < q := by rw [← hq]; exact hO1.inside
 have hb2 : Try.prog.built 42 [(0, .int .i64 k), (1, .int .i64 (N0 : Int))] = some (msC { z0 with kind := k, rnd := (N0 : Int) } nilS).toArray := by kernel_rfl
 have hO : AtL (W1.alloc (.cells (msC z0 nilS).toArray 42)) q 42 (msC z0 nilS) := by rw [← hq]; exact AtL.new W1 42 (msC z0 nilS)
 have hi53 : (Try.prog.info? 42).map (·.size) = some (msC { z0 with kind := k, rnd := (N0 : Int) } nilS).length := by kernel_rfl
 have h1c : ∀ u ∈ msC { z0 with kind := k, rnd := (N0 : Int) } nilS, u.oneCell' = true := ms_one rfl
 have hS : Rds n q g w { z0 with kind := k, rnd := (N0 : Int) } nilS s0 ((W1.alloc (.cells (msC z0 nilS).toArray 42)).setRow q (msC { z0 with kind := k, rnd := (N0 : Int) } nilS).toArray) :=
  ⟨(hO1.alloc _).rowFar (by omega) _, hO.row _, (hR1.keep ((Below.refl n W1).alloc (by omega) _) hgi).keep (below_row (Below.refl n _) (Nat.le_of_lt hnq) _) hgi, (hC1.alloc (by omega) _).row (.inl (Nat.le_of_lt hnq)) _⟩
 replace hg1 := Lib.hid hg1
 replace hR1 := Lib.hid hR1
 replace hO1 := Lib.hid hO1
 go_upto_region 2 with (first | (refine wpList_built2 rfl 42 0 1 _ _ rfl _ _ rfl rfl _ hb2 ?_) | (refine wpList_store_part rfl 42 _ _ rfl q 0 (msC { z0 with kind := k, rnd := (N0 : Int) } nilS) rfl rfl 42 (msC z0 nilS) hO hi53 (Nat.le_refl _) h1c ?_))
 rw [z0_lit]
 rw [put_all (old := msC z0 nilS) (cs := msC { z0 with kind := k, rnd := (N0 : Int) } nilS) rfl]
 simp only [Act.put]
 generalize (W1.alloc (.cells (msC z0 nilS).toArray 42)).setRow q (msC { z0 with kind := k, rnd := (N0 : Int) } nilS).toArray = W2 at *
 generalize hZ : ({ z0 with kind := k, rnd := (N0 : Int) } : Ms) = Z at *
 have hZd : Z.dig.length = 32 := by rw [← hZ]; rfl
 have hZm : Z.marks = [] := by rw [← hZ]; rfl
 replace hZ := Lib.hid hZ
 clear hb2 hO hi53 h1c hO0 hC0 hC1 hg1 hR1 hO1 hq hnum hR0 h
 replace hZd := Lib.hid hZd
 replace hZm := Lib.hid hZm
 by_cases y1 : k = 1
 · go_upto_region 4 with fail
   have hnum := Lib.hid (small_any 1 (by omega) g s0 W2 hS.rd)
   have hlt1 := numS_lt s0 (k := 1) (by omega)
   obtain ⟨N1, e1⟩ : ∃ N, (numS s0 1).1 = N := ⟨_, rfl⟩
   obtain ⟨s1, t1⟩ : ∃ s, (numS s0 1).2 = s := ⟨_, rfl⟩
   simp only [e1, t1] at hnum hlt1
   replace e1 := Lib.hid e1
   replace t1 := Lib.hid t1
   have b1 : (N1 : Int) ≤ 4294967296 := by omega
   clear hlt1
   go_wp2_with fail
   refine hnum.out.mono ?_
   rintro e V1 ⟨rfl, hR, hg⟩
   have hS1 := hS.call hR hg hgi hnq
   clear hnum hS hR hg
   obtain ⟨u, hu⟩ : ∃ u, (msC (Z) nilS)[3]? = some u := ⟨_, List.getElem?_eq_getElem (by rw [msC_len (by exact hZd.out)]; decide)⟩
   have cc := (hS1.msg.cell 3).trans hu
   have ff := hS1.msg.free 3
   have hS2 := Lib.hid (hS1.put (m' := { Z with req := ((N1 : Int)) }) (v' := nilS) 3 (.int .i64 (N1 : Int)) (rfl) hgi hnq)
   clear hu hS1
   go_upto_region 5 with fail
   have hS := hS2.out
   clear hS2 cc ff
   generalize V1.setCell ⟨q, 3, none⟩ (.int .i64 (N1 : Int)) = X1 at hS ⊢
   have hnum := Lib.hid (small_any 4 (by omega) g s1 X1 hS.rd)
   have hlt2 := numS_lt s1 (k := 4) (by omega)
   obtain ⟨N2, e2⟩ : ∃ N, (numS s1 4).1 = N := ⟨_, rfl⟩
   obtain ⟨s2, t2⟩ : ∃ s, (numS s1 4).2 = s := ⟨_, rfl⟩
   simp only [e2, t2] at hnum hlt2
   replace e2 := Lib.hid e2
   replace t2 := Lib.hid t2
   have b2 : (N2 : Int) ≤ 4294967296 := by omega
   clear hlt2
   go_wp2_with fail
   refine hnum.out.mono ?_
   rintro e V2 ⟨rfl, hR, hg⟩
   have hS1 := hS.call hR hg hgi hnq
   clear hnum hS hR hg
   obtain ⟨u, hu⟩ : ∃ u, (msC ({ Z with req := ((N1 : Int)) }) nilS)[4]? = some u := ⟨_, List.getElem?_eq_getElem (by rw [msC_len (by exact hZd.out)]; decide)⟩
   have cc := (hS1.msg.cell 4).trans hu
   have ff := hS1.msg.free 4
   have hS2 := Lib.hid (hS1.put (m' := { Z with req := ((N1 : Int)), rsv := ((N2 : Int)) }) (v' := nilS) 4 (.int .i64 (N2 : Int)) (rfl) hgi hnq)
   clear hu hS1
   go_upto_region 6 with fail
   have hS := hS2.out
   clear hS2 cc ff
   generalize V2.setCell ⟨q, 4, none⟩ (.int .i64 (N2 : Int)) = X2 at hS ⊢
   have hnum := Lib.hid (small_any 2 (by omega) g s2 X2 hS.rd)
   have hlt3 := numS_lt s2 (k := 2) (by omega)
   obtain ⟨N3, e3⟩ : ∃ N, (numS s2 2).1 = N := ⟨_, rfl⟩
   obtain ⟨s3, t3⟩ : ∃ s, (numS s2 2).2 = s := ⟨_, rfl⟩
   simp only [e3, t3] at hnum hlt3
   replace e3 := Lib.hid e3
   replace t3 := Lib.hid t3
   have b3 : (N3 : Int) ≤ 4294967296 := by omega
   clear hlt3
   go_wp2_with fail
   refine hnum.out.mono ?_
   rintro e V3 ⟨rfl, hR, hg⟩
   have hS1 := hS.call hR hg hgi hnq
   clear hnum hS hR hg
   obtain ⟨u, hu⟩ : ∃ u, (msC ({ Z with req := ((N1 : Int)), rsv := ((N2 : Int)) }) nilS)[5]? = some u := ⟨_, List.getElem?_eq_getElem (by rw [msC_len (by exact hZd.out)]; decide)⟩
   have cc := (hS1.msg.cell 5).trans hu
   have ff := hS1.msg.free 5
   have hS2 := Lib.hid (hS1.put (m' := { Z with req := ((N1 : Int)), rsv := ((N2 : Int)), rq := { Z.rq with fx := ((N3 : Int)) } }) (v' := nilS) 5 (.int .i64 (N3 : Int)) (rfl) hgi hnq)
   clear hu hS1
   go_upto_region 7 with fail
   have hS := hS2.out
   clear hS2 cc ff
   generalize V3.setCell ⟨q, 5, none⟩ (.int .i64 (N3 : Int)) = X3 at hS ⊢
   have hnum := Lib.hid (small_any 2 (by omega) g s3 X3 hS.rd)
   have hlt4 := numS_lt s3 (k := 2) (by omega)
   obtain ⟨N4, e4⟩ : ∃ N, (numS s3 2).1 = N := ⟨_, rfl⟩
   obtain ⟨s4, t4⟩ : ∃ s, (numS s3 2).2 = s := ⟨_, rfl⟩
   simp only [e4, t4] at hnum hlt4
   replace e4 := Lib.hid e4
   replace t4 := Lib.hid t4
   have b4 : (N4 : Int) ≤ 4294967296 := by omega
   clear hlt4
   go_wp2_with fail
   refine hnum.out.mono ?_
   rintro e V4 ⟨rfl, hR, hg⟩
   have hS1 := hS.call hR hg hgi hnq
   clear hnum hS hR hg
   obtain ⟨u, hu⟩ : ∃ u, (msC ({ Z with req := ((N1 : Int)), rsv := ((N2 : Int)), rq := { Z.rq with fx := ((N3 : Int)) } }) nilS)[6]? = some u := ⟨_, List.getElem?_eq_getElem (by rw [msC_len (by exact hZd.out)]; decide)⟩
   have cc := (hS1.msg.cell 6).trans hu
   have ff := hS1.msg.free 6
   have hS2 := Lib.hid (hS1.put (m' := { Z with req := ((N1 : Int)), rsv := ((N2 : Int)), rq := { Z.rq with fx := ((N3 : Int)), fy := ((N4 : Int)) } }) (v' := nilS) 6 (.int .i64 (N4 : Int)) (rfl) hgi hnq)
   clear hu hS1
   go_upto_region 8 with fail
   have hS := hS2.out
   clear hS2 cc ff
   generalize V4.setCell ⟨q, 6, none⟩ (.int .i64 (N4 : Int)) = X4 at hS ⊢
   have hnum := Lib.hid (small_any 2 (by omega) g s4 X4 hS.rd)
   have hlt5 := numS_lt s4 (k := 2) (by omega)
   obtain ⟨N5, e5⟩ : ∃ N, (numS s4 2).1 = N := ⟨_, rfl⟩
   obtain ⟨s5, t5⟩ : ∃ s, (numS s4 2).2 = s := ⟨_, rfl⟩
   simp only [e5, t5] at hnum hlt5
   replace e5 := Lib.hid e5
   replace t5 := Lib.hid t5
   have b5 : (N5 : Int) ≤ 4294967296 := by omega
   clear hlt5
   go_wp2_with fail
   refine hnum.out.mono ?_
   rintro e V5 ⟨rfl, hR, hg⟩
   have hS1 := hS.call hR hg hgi hnq
   clear hnum hS hR hg
   obtain ⟨u, hu⟩ : ∃ u, (msC ({ Z with req := ((N1 : Int)), rsv := ((N2 : Int)), rq := { Z.rq with fx := ((N3 : Int)), fy := ((N4 : Int)) } }) nilS)[7]? = some u := ⟨_, List.getElem?_eq_getElem (by rw [msC_len (by exact hZd.out)]; decide)⟩
   have cc := (hS1.msg.cell 7).trans hu
   have ff := hS1.msg.free 7
   have hS2 := Lib.hid (hS1.put (m' := { Z with req := ((N1 : Int)), rsv := ((N2 : Int)), rq := { Z.rq with fx := ((N3 : Int)), fy := ((N4 : Int)), tx := ((N5 : Int)) } }) (v' := nilS) 7 (.int .i64 (N5 : Int)) (rfl) hgi hnq)
   clear hu hS1
   go_upto_region 9 with fail
   have hS := hS2.out
   clear hS2 cc ff
   generalize V5.setCell ⟨q, 7, none⟩ (.int .i64 (N5 : Int)) = X5 at hS ⊢
   have hnum := Lib.hid (small_any 2 (by omega) g s5 X5 hS.rd)
   have hlt6 := numS_lt s5 (k := 2) (by omega)
   obtain ⟨N6, e6⟩ : ∃ N, (numS s5 2).1 = N := ⟨_, rfl⟩
   obtain ⟨s6, t6⟩ : ∃ s, (numS s5 2).2 = s := ⟨_, rfl⟩
   simp only [e6, t6] at hnum hlt6
   replace e6 := Lib.hid e6
   replace t6 := Lib.hid t6
   have b6 : (N6 : Int) ≤ 4294967296 := by omega
   clear hlt6
   go_wp2_with fail
   refine hnum.out.mono ?_
   rintro e V6 ⟨rfl, hR, hg⟩
   have hS1 := hS.call hR hg hgi hnq
   clear hnum hS hR hg
   obtain ⟨u, hu⟩ : ∃ u, (msC ({ Z with req := ((N1 : Int)), rsv := ((N2 : Int)), rq := { Z.rq with fx := ((N3 : Int)), fy := ((N4 : Int)), tx := ((N5 : Int)) } }) nilS)[8]? = some u := ⟨_, List.getElem?_eq_getElem (by rw [msC_len (by exact hZd.out)]; decide)⟩
   have cc := (hS1.msg.cell 8).trans hu
   have ff := hS1.msg.free 8
   have hS2 := Lib.hid (hS1.put (m' := { Z with req := ((N1 : Int)), rsv := ((N2 : Int)), rq := { Z.rq with fx := ((N3 : Int)), fy := ((N4 : Int)), tx := ((N5 : Int)), ty := ((N6 : Int)) } }) (v' := nilS) 8 (.int .i64 (N6 : Int)) (rfl) hgi hnq)
   clear hu hS1
   go_upto_region 10 with fail
   have hS := hS2.out
   clear hS2 cc ff
   generalize V6.setCell ⟨q, 8, none⟩ (.int .i64 (N6 : Int)) = X6 at hS ⊢
   have hnum := Lib.hid (small_any 4 (by omega) g s6 X6 hS.rd)
   have hlt7 := numS_lt s6 (k := 4) (by omega)
   obtain ⟨N7, e7⟩ : ∃ N, (numS s6 4).1 = N := ⟨_, rfl⟩
   obtain ⟨s7, t7⟩ : ∃ s, (numS s6 4).2 = s := ⟨_, rfl⟩
   simp only [e7, t7] at hnum hlt7
   replace e7 := Lib.hid e7
   replace t7 := Lib.hid t7
   have b7 : (N7 : Int) ≤ 4294967296 := by omega
   clear hlt7
   go_wp2_with fail
   refine hnum.out.mono ?_
   rintro e V7 ⟨rfl, hR, hg⟩
   have hS1 := hS.call hR hg hgi hnq
   clear hnum hS hR hg
   obtain ⟨u, hu⟩ : ∃ u, (msC ({ Z with req := ((N1 : Int)), rsv := ((N2 : Int)), rq := { Z.rq with fx := ((N3 : Int)), fy := ((N4 : Int)), tx := ((N5 : Int)), ty := ((N6 : Int)) } }) nilS)[9]? = some u := ⟨_, List.getElem?_eq_getElem (by rw [msC_len (by exact hZd.out)]; decide)⟩
   have cc := (hS1.msg.cell 9).trans hu
   have ff := hS1.msg.free 9
   have hS2 := Lib.hid (hS1.put (m' := { Z with req := ((N1 : Int)), rsv := ((N2 : Int)), rq := { Z.rq with fx := ((N3 : Int)), fy := ((N4 : Int)), tx := ((N5 : Int)), ty := ((N6 : Int)), pe := ((N7 : Int)) } }) (v' := nilS) 9 (.int .i64 (N7 : Int)) (rfl) hgi hnq)
   clear hu hS1
   go_upto_region 11 with fail
   have hS := hS2.out
   clear hS2 cc ff
   generalize V7.setCell ⟨q, 9, none⟩ (.int .i64 (N7 : Int)) = X7 at hS ⊢
   have hnum := Lib.hid (small_any 4 (by omega) g s7 X7 hS.rd)
   have hlt8 := numS_lt s7 (k := 4) (by omega)
   obtain ⟨N8, e8⟩ : ∃ N, (numS s7 4).1 = N := ⟨_, rfl⟩
   obtain ⟨s8, t8⟩ : ∃ s, (numS s7 4).2 = s := ⟨_, rfl⟩
   simp only [e8, t8] at hnum hlt8
   replace e8 := Lib.hid e8
   replace t8 := Lib.hid t8
   have b8 : (N8 : Int) ≤ 4294967296 := by omega
   clear hlt8
   go_wp2_with fail
   refine hnum.out.mono ?_
   rintro e V8 ⟨rfl, hR, hg⟩
   have hS1 := hS.call hR hg hgi hnq
   clear hnum hS hR hg
   obtain ⟨u, hu⟩ : ∃ u, (msC ({ Z with req := ((N1 : Int)), rsv := ((N2 : Int)), rq := { Z.rq with fx := ((N3 : Int)), fy := ((N4 : Int)), tx := ((N5 : Int)), ty := ((N6 : Int)), pe := ((N7 : Int)) } }) nilS)[10]? = some u := ⟨_, List.getElem?_eq_getElem (by rw [msC_len (by exact hZd.out)]; decide)⟩
   have cc := (hS1.msg.cell 10).trans hu
   have ff := hS1.msg.free 10
   have hS2 := Lib.hid (hS1.put (m' := { Z with req := ((N1 : Int)), rsv := ((N2 : Int)), rq := { Z.rq with fx := ((N3 : Int)), fy := ((N4 : Int)), tx := ((N5 : Int)), ty := ((N6 : Int)), pe := ((N7 : Int)), pl := ((N8 : Int)) } }) (v' := nilS) 10 (.int .i64 (N8 : Int)) (rfl) hgi hnq)
   clear hu hS1
   go_upto_region 12 with fail
   have hS := hS2.out
   clear hS2 cc ff
   generalize V8.setCell ⟨q, 10, none⟩ (.int .i64 (N8 : Int)) = X8 at hS ⊢
   have hnum := Lib.hid (small_any 4 (by omega) g s8 X8 hS.rd)
   have hlt9 := numS_lt s8 (k := 4) (by omega)
   obtain ⟨N9, e9⟩ : ∃ N, (numS s8 4).1 = N := ⟨_, rfl⟩
   obtain ⟨s9, t9⟩ : ∃ s, (numS s8 4).2 = s := ⟨_, rfl⟩
   simp only [e9, t9] at hnum hlt9
   replace e9 := Lib.hid e9
   replace t9 := Lib.hid t9
   have b9 : (N9 : Int) ≤ 4294967296 := by omega
   clear hlt9
   go_wp2_with fail
   refine hnum.out.mono ?_
   rintro e V9 ⟨rfl, hR, hg⟩
   have hS1 := hS.call hR hg hgi hnq
   clear hnum hS hR hg
   obtain ⟨u, hu⟩ : ∃ u, (msC ({ Z with req := ((N1 : Int)), rsv := ((N2 : Int)), rq := { Z.rq with fx := ((N3 : Int)), fy := ((N4 : Int)), tx := ((N5 : Int)), ty := ((N6 : Int)), pe := ((N7 : Int)), pl := ((N8 : Int)) } }) nilS)[11]? = some u := ⟨_, List.getElem?_eq_getElem (by rw [msC_len (by exact hZd.out)]; decide)⟩
   have cc := (hS1.msg.cell 11).trans hu
   have ff := hS1.msg.free 11
   have hS2 := Lib.hid (hS1.put (m' := { Z with req := ((N1 : Int)), rsv := ((N2 : Int)), rq := { Z.rq with fx := ((N3 : Int)), fy := ((N4 : Int)), tx := ((N5 : Int)), ty := ((N6 : Int)), pe := ((N7 : Int)), pl := ((N8 : Int)), de := ((N9 : Int)) } }) (v' := nilS) 11 (.int .i64 (N9 : Int)) (rfl) hgi hnq)
   clear hu hS1
   go_upto_region 13 with fail
   have hS := hS2.out
   clear hS2 cc ff
   generalize V9.setCell ⟨q, 11, none⟩ (.int .i64 (N9 : Int)) = X9 at hS ⊢
   have hnum := Lib.hid (small_any 4 (by omega) g s9 X9 hS.rd)
   have hlt10 := numS_lt s9 (k := 4) (by omega)
   obtain ⟨N10, e10⟩ : ∃ N, (numS s9 4).1 = N := ⟨_, rfl⟩
   obtain ⟨s10, t10⟩ : ∃ s, (numS s9 4).2 = s := ⟨_, rfl⟩
   simp only [e10, t10] at hnum hlt10
   replace e10 := Lib.hid e10
   replace t10 := Lib.hid t10
   have b10 : (N10 : Int) ≤ 4294967296 := by omega
   clear hlt10
   go_wp2_with fail
   refine hnum.out.mono ?_
   rintro e V10 ⟨rfl, hR, hg⟩
   have hS1 := hS.call hR hg hgi hnq
   clear hnum hS hR hg
   obtain ⟨u, hu⟩ : ∃ u, (msC ({ Z with req := ((N1 : Int)), rsv := ((N2 : Int)), rq := { Z.rq with fx := ((N3 : Int)), fy := ((N4 : Int)), tx := ((N5 : Int)), ty := ((N6 : Int)), pe := ((N7 : Int)), pl := ((N8 : Int)), de := ((N9 : Int)) } }) nilS)[12]? = some u := ⟨_, List.getElem?_eq_getElem (by rw [msC_len (by exact hZd.out)]; decide)⟩
   have cc := (hS1.msg.cell 12).trans hu
   have ff := hS1.msg.free 12
   have hS2 := Lib.hid (hS1.put (m' := { Z with req := ((N1 : Int)), rsv := ((N2 : Int)), rq := { Z.rq with fx := ((N3 : Int)), fy := ((N4 : Int)), tx := ((N5 : Int)), ty := ((N6 : Int)), pe := ((N7 : Int)), pl := ((N8 : Int)), de := ((N9 : Int)), dl := ((N10 : Int)) } }) (v' := nilS) 12 (.int .i64 (N10 : Int)) (rfl) hgi hnq)
   clear hu hS1
   go_upto_region 14 with fail
   have hS := hS2.out
   clear hS2 cc ff
   generalize V10.setCell ⟨q, 12, none⟩ (.int .i64 (N10 : Int)) = X10 at hS ⊢
   have hnum := Lib.hid (small_any 2 (by omega) g s10 X10 hS.rd)
   have hlt11 := numS_lt s10 (k := 2) (by omega)
   obtain ⟨N11, e11⟩ : ∃ N, (numS s10 2).1 = N := ⟨_, rfl⟩
   obtain ⟨s11, t11⟩ : ∃ s, (numS s10 2).2 = s := ⟨_, rfl⟩
   simp only [e11, t11] at hnum hlt11
   replace e11 := Lib.hid e11
   replace t11 := Lib.hid t11
   have b11 : (N11 : Int) ≤ 4294967296 := by omega
   clear hlt11
   go_wp2_with fail
   refine hnum.out.mono ?_
   rintro e V11 ⟨rfl, hR, hg⟩
   have hS1 := hS.call hR hg hgi hnq
   clear hnum hS hR hg
   obtain ⟨u, hu⟩ : ∃ u, (msC ({ Z with req := ((N1 : Int)), rsv := ((N2 : Int)), rq := { Z.rq with fx := ((N3 : Int)), fy := ((N4 : Int)), tx := ((N5 : Int)), ty := ((N6 : Int)), pe := ((N7 : Int)), pl := ((N8 : Int)), de := ((N9 : Int)), dl := ((N10 : Int)) } }) nilS)[13]? = some u := ⟨_, List.getElem?_eq_getElem (by rw [msC_len (by exact hZd.out)]; decide)⟩
   have cc := (hS1.msg.cell 13).trans hu
   have ff := hS1.msg.free 13
   have hS2 := Lib.hid (hS1.put (m' := { Z with req := ((N1 : Int)), rsv := ((N2 : Int)), rq := { Z.rq with fx := ((N3 : Int)), fy := ((N4 : Int)), tx := ((N5 : Int)), ty := ((N6 : Int)), pe := ((N7 : Int)), pl := ((N8 : Int)), de := ((N9 : Int)), dl := ((N10 : Int)), ld := ((N11 : Int)) } }) (v' := nilS) 13 (.int .i64 (N11 : Int)) (rfl) hgi hnq)
   clear hu hS1
   go_upto_region 15 with fail
   have hS := hS2.out
   clear hS2 cc ff
   generalize V11.setCell ⟨q, 13, none⟩ (.int .i64 (N11 : Int)) = X11 at hS ⊢
   have hnum := Lib.hid (small_any 2 (by omega) g s11 X11 hS.rd)
   have hlt12 := numS_lt s11 (k := 2) (by omega)
   obtain ⟨N12, e12⟩ : ∃ N, (numS s11 2).1 = N := ⟨_, rfl⟩
   obtain ⟨s12, t12⟩ : ∃ s, (numS s11 2).2 = s := ⟨_, rfl⟩
   simp only [e12, t12] at hnum hlt12
   replace e12 := Lib.hid e12
   replace t12 := Lib.hid t12
   have b12 : (N12 : Int) ≤ 4294967296 := by omega
   clear hlt12
   go_wp2_with fail
   refine hnum.out.mono ?_
   rintro e V12 ⟨rfl, hR, hg⟩
   have hS1 := hS.call hR hg hgi hnq
   clear hnum hS hR hg
   obtain ⟨u, hu⟩ : ∃ u, (msC ({ Z with req := ((N1 : Int)), rsv := ((N2 : Int)), rq := { Z.rq with fx := ((N3 : Int)), fy := ((N4 : Int)), tx := ((N5 : Int)), ty := ((N6 : Int)), pe := ((N7 : Int)), pl := ((N8 : Int)), de := ((N9 : Int)), dl := ((N10 : Int)), ld := ((N11 : Int)) } }) nilS)[14]? = some u := ⟨_, List.getElem?_eq_getElem (by rw [msC_len (by exact hZd.out)]; decide)⟩
   have cc := (hS1.msg.cell 14).trans hu
   have ff := hS1.msg.free 14
   have hS2 := Lib.hid (hS1.put (m' := { Z with req := ((N1 : Int)), rsv := ((N2 : Int)), rq := { Z.rq with fx := ((N3 : Int)), fy := ((N4 : Int)), tx := ((N5 : Int)), ty := ((N6 : Int)), pe := ((N7 : Int)), pl := ((N8 : Int)), de := ((N9 : Int)), dl := ((N10 : Int)), ld := ((N11 : Int)), sv := ((N12 : Int)) } }) (v' := nilS) 14 (.int .i64 (N12 : Int)) (rfl) hgi hnq)
   clear hu hS1
   go_upto_region 34 with fail
   have hS := hS2.out
   clear hS2 cc ff
   generalize V12.setCell ⟨q, 14, none⟩ (.int .i64 (N12 : Int)) = W9 at hS ⊢
   have hfin := Lib.hid (show readS k st = ({ Z with req := ((N1 : Int)), rsv := ((N2 : Int)), rq := { Z.rq with fx := ((N3 : Int)), fy := ((N4 : Int)), tx := ((N5 : Int)), ty := ((N6 : Int)), pe := ((N7 : Int)), pl := ((N8 : Int)), de := ((N9 : Int)), dl := ((N10 : Int)), ld := ((N11 : Int)), sv := ((N12 : Int)) } }, s12) by rw [hrd.out, readR, if_pos y1, ← hZ.out]; simp only [rqS, e1.out, t1.out, e2.out, t2.out, e3.out, t3.out, e4.out, t4.out, e5.out, t5.out, e6.out, t6.out, e7.out, t7.out, e8.out, t8.out, e9.out, t9.out, e10.out, t10.out, e11.out, t11.out, e12.out, t12.out])
   have hMd : ({ Z with req := ((N1 : Int)), rsv := ((N2 : Int)), rq := { Z.rq with fx := ((N3 : Int)), fy := ((N4 : Int)), tx := ((N5 : Int)), ty := ((N6 : Int)), pe := ((N7 : Int)), pl := ((N8 : Int)), de := ((N9 : Int)), dl := ((N10 : Int)), ld := ((N11 : Int)), sv := ((N12 : Int)) } } : Ms).dig.length = 32 := by exact hZd.out
   have hf53 := Lib.hid (show (Try.prog.info? 42).map (·.size) = some (msC ({ Z with req := ((N1 : Int)), rsv := ((N2 : Int)), rq := { Z.rq with fx := ((N3 : Int)), fy := ((N4 : Int)), tx := ((N5 : Int)), ty := ((N6 : Int)), pe := ((N7 : Int)), pl := ((N8 : Int)), de := ((N9 : Int)), dl := ((N10 : Int)), ld := ((N11 : Int)), sv := ((N12 : Int)) } }) nilS).length by rw [msC_len hMd]; kernel_rfl)
   have h1c := Lib.hid (show ∀ u ∈ msC ({ Z with req := ((N1 : Int)), rsv := ((N2 : Int)), rq := { Z.rq with fx := ((N3 : Int)), fy := ((N4 : Int)), tx := ((N5 : Int)), ty := ((N6 : Int)), pe := ((N7 : Int)), pl := ((N8 : Int)), de := ((N9 : Int)), dl := ((N10 : Int)), ld := ((N11 : Int)), sv := ((N12 : Int)) } }) nilS, u.oneCell' = true from ms_one rfl)
   have hl53 := Lib.hid (show 0 + (msC ({ Z with req := ((N1 : Int)), rsv := ((N2 : Int)), rq := { Z.rq with fx := ((N3 : Int)), fy := ((N4 : Int)), tx := ((N5 : Int)), ty := ((N6 : Int)), pe := ((N7 : Int)), pl := ((N8 : Int)), de := ((N9 : Int)), dl := ((N10 : Int)), ld := ((N11 : Int)), sv := ((N12 : Int)) } }) nilS).length ≤ (msC z0 nilS).length by rw [msC_len hMd]; decide)
   have hld := Lib.hid (show ∀ j u, (msC ({ Z with req := ((N1 : Int)), rsv := ((N2 : Int)), rq := { Z.rq with fx := ((N3 : Int)), fy := ((N4 : Int)), tx := ((N5 : Int)), ty := ((N6 : Int)), pe := ((N7 : Int)), pl := ((N8 : Int)), de := ((N9 : Int)), dl := ((N10 : Int)), ld := ((N11 : Int)), sv := ((N12 : Int)) } }) nilS)[j]? = some u → W9.cell? ⟨q, 0 + j, none⟩ = some u from fun j u hu => by rw [Nat.zero_add]; exact hS.msg.get hu)
   have hO4 : AtL (W9.setRow n (putL (msC z0 nilS) 0 (msC ({ Z with req := ((N1 : Int)), rsv := ((N2 : Int)), rq := { Z.rq with fx := ((N3 : Int)), fy := ((N4 : Int)), tx := ((N5 : Int)), ty := ((N6 : Int)), pe := ((N7 : Int)), pl := ((N8 : Int)), de := ((N9 : Int)), dl := ((N10 : Int)), ld := ((N11 : Int)), sv := ((N12 : Int)) } }) nilS)).toArray) n 42 (msC ({ Z with req := ((N1 : Int)), rsv := ((N2 : Int)), rq := { Z.rq with fx := ((N3 : Int)), fy := ((N4 : Int)), tx := ((N5 : Int)), ty := ((N6 : Int)), pe := ((N7 : Int)), pl := ((N8 : Int)), de := ((N9 : Int)), dl := ((N10 : Int)), ld := ((N11 : Int)), sv := ((N12 : Int)) } }) nilS) := by have := hS.res.row (putL (msC z0 nilS) 0 (msC ({ Z with req := ((N1 : Int)), rsv := ((N2 : Int)), rq := { Z.rq with fx := ((N3 : Int)), fy := ((N4 : Int)), tx := ((N5 : Int)), ty := ((N6 : Int)), pe := ((N7 : Int)), pl := ((N8 : Int)), de := ((N9 : Int)), dl := ((N10 : Int)), ld := ((N11 : Int)), sv := ((N12 : Int)) } }) nilS)); rw [put_all (by rw [msC_len hMd, msC_len z_ok.dig])] at this ⊢; exact this
   have hC4 := Lib.hid (hS.chg.row (g := n) (.inl (Nat.le_refl _)) (putL (msC z0 nilS) 0 (msC ({ Z with req := ((N1 : Int)), rsv := ((N2 : Int)), rq := { Z.rq with fx := ((N3 : Int)), fy := ((N4 : Int)), tx := ((N5 : Int)), ty := ((N6 : Int)), pe := ((N7 : Int)), pl := ((N8 : Int)), de := ((N9 : Int)), dl := ((N10 : Int)), ld := ((N11 : Int)), sv := ((N12 : Int)) } }) nilS)).toArray)
   have hR4 := Lib.hid (hS.rd.keep (below_row (Below.refl n W9) (Nat.le_refl _) (putL (msC z0 nilS) 0 (msC ({ Z with req := ((N1 : Int)), rsv := ((N2 : Int)), rq := { Z.rq with fx := ((N3 : Int)), fy := ((N4 : Int)), tx := ((N5 : Int)), ty := ((N6 : Int)), pe := ((N7 : Int)), pl := ((N8 : Int)), de := ((N9 : Int)), dl := ((N10 : Int)), ld := ((N11 : Int)), sv := ((N12 : Int)) } }) nilS)).toArray) hgi)
   replace hO4 := Lib.hid hO4
   have hres := Lib.hid hS.res
   clear hS hMd
   go_wp2_with (first | (refine wpList_load_part_w rfl 42 _ rfl q 0 rfl (msC ({ Z with req := ((N1 : Int)), rsv := ((N2 : Int)), rq := { Z.rq with fx := ((N3 : Int)), fy := ((N4 : Int)), tx := ((N5 : Int)), ty := ((N6 : Int)), pe := ((N7 : Int)), pl := ((N8 : Int)), de := ((N9 : Int)), dl := ((N10 : Int)), ld := ((N11 : Int)), sv := ((N12 : Int)) } }) nilS) hld.out _ Try.underlying42 rfl hf53.out ?_) | (refine wpList_store_part rfl 42 _ _ rfl n 0 (msC ({ Z with req := ((N1 : Int)), rsv := ((N2 : Int)), rq := { Z.rq with fx := ((N3 : Int)), fy := ((N4 : Int)), tx := ((N5 : Int)), ty := ((N6 : Int)), pe := ((N7 : Int)), pl := ((N8 : Int)), de := ((N9 : Int)), dl := ((N10 : Int)), ld := ((N11 : Int)), sv := ((N12 : Int)) } }) nilS) rfl rfl 42 (msC z0 nilS) hres.out hf53.out hl53.out h1c.out ?_))
   refine bodyPost_ret (ret_array rfl rfl hO4.out _ Try.underlying42 rfl hf53.out) rfl ?_
   try rw [show readS 1 st = readS k st by rw [y1]]
   rw [hfin.out]
   exact ⟨nilS, rfl, by show MarksAt _ _ _ Z.marks; rw [hZm.out]; exact .nil _ _ _, hR4.out, chg_new hn.out hC4.out⟩
 by_cases y4 : k = 4
 · go_upto_region 27 with fail
   have hnum := Lib.hid (small_any 1 (by omega) g s0 W2 hS.rd)
   have hlt1 := numS_lt s0 (k := 1) (by omega)
   obtain ⟨N1, e1⟩ : ∃ N, (numS s0 1).1 = N := ⟨_, rfl⟩
   obtain ⟨s1, t1⟩ : ∃ s, (numS s0 1).2 = s := ⟨_, rfl⟩
   simp only [e1, t1] at hnum hlt1
   replace e1 := Lib.hid e1
   replace t1 := Lib.hid t1
   have b1 : (N1 : Int) ≤ 4294967296 := by omega
   clear hlt1
   go_wp2_with fail
   refine hnum.out.mono ?_
   rintro e V1 ⟨rfl, hR, hg⟩
   have hS1 := hS.call hR hg hgi hnq
   clear hnum hS hR hg
   obtain ⟨u, hu⟩ : ∃ u, (msC (Z) nilS)[2]? = some u := ⟨_, List.getElem?_eq_getElem (by rw [msC_len (by exact hZd.out)]; decide)⟩
   have cc := (hS1.msg.cell 2).trans hu
   have ff := hS1.msg.free 2
   have hS2 := Lib.hid (hS1.put (m' := { Z with car := ((N1 : Int)) }) (v' := nilS) 2 (.int .i64 (N1 : Int)) (rfl) hgi hnq)
   clear hu hS1
   go_upto_region 28 with fail
   have hS := hS2.out
   clear hS2 cc ff
   generalize V1.setCell ⟨q, 2, none⟩ (.int .i64 (N1 : Int)) = X1 at hS ⊢
   have hnum := Lib.hid (refNum_any 8 g s1 X1 hS.rd)
   have hlt2 := trivial
   obtain ⟨N2, e2⟩ : ∃ N, (numS s1 8).1 = N := ⟨_, rfl⟩
   obtain ⟨s2, t2⟩ : ∃ s, (numS s1 8).2 = s := ⟨_, rfl⟩
   simp only [e2, t2] at hnum
   replace e2 := Lib.hid e2
   replace t2 := Lib.hid t2
   skip
   clear hlt2
   go_wp2_with fail
   refine hnum.out.mono ?_
   rintro e V2 ⟨rfl, hR, hg⟩
   have hS1 := hS.call hR hg hgi hnq
   clear hnum hS hR hg
   obtain ⟨u, hu⟩ : ∃ u, (msC ({ Z with car := ((N1 : Int)) }) nilS)[48]? = some u := ⟨_, List.getElem?_eq_getElem (by rw [msC_len (by exact hZd.out)]; decide)⟩
   have cc := (hS1.msg.cell 48).trans hu
   have ff := hS1.msg.free 48
   have hS2 := Lib.hid (hS1.put (m' := { Z with car := ((N1 : Int)), bid := N2 }) (v' := nilS) 48 (.int .u64 (N2 : Int)) (set_bid _ _ _ (by exact hZd.out)) hgi hnq)
   clear hu hS1
   go_upto_region 29 with fail
   have hS := hS2.out
   clear hS2 cc ff
   generalize V2.setCell ⟨q, 48, none⟩ (.int .u64 (N2 : Int)) = X2 at hS ⊢
   have hnum := Lib.hid (refNum_any 8 g s2 X2 hS.rd)
   have hlt3 := trivial
   obtain ⟨N3, e3⟩ : ∃ N, (numS s2 8).1 = N := ⟨_, rfl⟩
   obtain ⟨s3, t3⟩ : ∃ s, (numS s2 8).2 = s := ⟨_, rfl⟩
   simp only [e3, t3] at hnum
   replace e3 := Lib.hid e3
   replace t3 := Lib.hid t3
   skip
   clear hlt3
   go_wp2_with fail
   refine hnum.out.mono ?_
   rintro e V3 ⟨rfl, hR, hg⟩
   have hS1 := hS.call hR hg hgi hnq
   clear hnum hS hR hg
   obtain ⟨u, hu⟩ : ∃ u, (msC ({ Z with car := ((N1 : Int)), bid := N2 }) nilS)[49]? = some u := ⟨_, List.getElem?_eq_getElem (by rw [msC_len (by exact hZd.out)]; decide)⟩
   have cc := (hS1.msg.cell 49).trans hu
   have ff := hS1.msg.free 49
   have hS2 := Lib.hid (hS1.put (m' := { Z with car := ((N1 : Int)), bid := N2, nonce := N3 }) (v' := nilS) 49 (.int .u64 (N3 : Int)) (set_nonce _ _ _ (by exact hZd.out)) hgi hnq)
   clear hu hS1
   go_upto_region 34 with fail
   have hS := hS2.out
   clear hS2 cc ff
   generalize V3.setCell ⟨q, 49, none⟩ (.int .u64 (N3 : Int)) = W9 at hS ⊢
   have hfin := Lib.hid (show readS k st = ({ Z with car := ((N1 : Int)), bid := N2, nonce := N3 }, s3) by rw [hrd.out, readR, if_neg (by omega), if_neg (by omega), if_neg (by omega), if_pos y4, ← hZ.out]; simp only [e1.out, t1.out, e2.out, t2.out, e3.out, t3.out])
   have hMd : ({ Z with car := ((N1 : Int)), bid := N2, nonce := N3 } : Ms).dig.length = 32 := by exact hZd.out
   have hf53 := Lib.hid (show (Try.prog.info? 42).map (·.size) = some (msC ({ Z with car := ((N1 : Int)), bid := N2, nonce := N3 }) nilS).length by rw [msC_len hMd]; kernel_rfl)
   have h1c := Lib.hid (show ∀ u ∈ msC ({ Z with car := ((N1 : Int)), bid := N2, nonce := N3 }) nilS, u.oneCell' = true from ms_one rfl)
   have hl53 := Lib.hid (show 0 + (msC ({ Z with car := ((N1 : Int)), bid := N2, nonce := N3 }) nilS).length ≤ (msC z0 nilS).length by rw [msC_len hMd]; decide)
   have hld := Lib.hid (show ∀ j u, (msC ({ Z with car := ((N1 : Int)), bid := N2, nonce := N3 }) nilS)[j]? = some u → W9.cell? ⟨q, 0 + j, none⟩ = some u from fun j u hu => by rw [Nat.zero_add]; exact hS.msg.get hu)
   have hO4 : AtL (W9.setRow n (putL (msC z0 nilS) 0 (msC ({ Z with car := ((N1 : Int)), bid := N2, nonce := N3 }) nilS)).toArray) n 42 (msC ({ Z with car := ((N1 : Int)), bid := N2, nonce := N3 }) nilS) := by have := hS.res.row (putL (msC z0 nilS) 0 (msC ({ Z with car := ((N1 : Int)), bid := N2, nonce := N3 }) nilS)); rw [put_all (by rw [msC_len hMd, msC_len z_ok.dig])] at this ⊢; exact this
   have hC4 := Lib.hid (hS.chg.row (g := n) (.inl (Nat.le_refl _)) (putL (msC z0 nilS) 0 (msC ({ Z with car := ((N1 : Int)), bid := N2, nonce := N3 }) nilS)).toArray)
   have hR4 := Lib.hid (hS.rd.keep (below_row (Below.refl n W9) (Nat.le_refl _) (putL (msC z0 nilS) 0 (msC ({ Z with car := ((N1 : Int)), bid := N2, nonce := N3 }) nilS)).toArray) hgi)
   replace hO4 := Lib.hid hO4
   have hres := Lib.hid hS.res
   clear hS hMd
   go_wp2_with (first | (refine wpList_load_part_w rfl 42 _ rfl q 0 rfl (msC ({ Z with car := ((N1 : Int)), bid := N2, nonce := N3 }) nilS) hld.out _ Try.underlying42 rfl hf53.out ?_) | (refine wpList_store_part rfl 42 _ _ rfl n 0 (msC ({ Z with car := ((N1 : Int)), bid := N2, nonce := N3 }) nilS) rfl rfl 42 (msC z0 nilS) hres.out hf53.out hl53.out h1c.out ?_))
   refine bodyPost_ret (ret_array rfl rfl hO4.out _ Try.underlying42 rfl hf53.out) rfl ?_
   try rw [show readS 4 st = readS k st by rw [y4]]
   rw [hfin.out]
   exact ⟨nilS, rfl, by show MarksAt _ _ _ Z.marks; rw [hZm.out]; exact .nil _ _ _, hR4.out, chg_new hn.out hC4.out⟩
 by_cases y5 : k = 5
 · go_upto_region 31 with fail
   have hnum := Lib.hid (small_any 1 (by omega) g s0 W2 hS.rd)
   have hlt1 := numS_lt s0 (k := 1) (by omega)
   obtain ⟨N1, e1⟩ : ∃ N, (numS s0 1).1 = N := ⟨_, rfl⟩
   obtain ⟨s1, t1⟩ : ∃ s, (numS s0 1).2 = s := ⟨_, rfl⟩
   simp only [e1, t1] at hnum hlt1
   replace e1 := Lib.hid e1
   replace t1 := Lib.hid t1
   have b1 : (N1 : Int) ≤ 4294967296 := by omega
   clear hlt1
   go_wp2_with fail
   refine hnum.out.mono ?_
   rintro e V1 ⟨rfl, hR, hg⟩
   have hS1 := hS.call hR hg hgi hnq
   clear hnum hS hR hg
   obtain ⟨u, hu⟩ : ∃ u, (msC (Z) nilS)[50]? = some u := ⟨_, List.getElem?_eq_getElem (by rw [msC_len (by exact hZd.out)]; decide)⟩
   have cc := (hS1.msg.cell 50).trans hu
   have ff := hS1.msg.free 50
   have hS2 := Lib.hid (hS1.put (m' := { Z with oc := { Z.oc with st := ((N1 : Int)) } }) (v' := nilS) 50 (.int .i64 (N1 : Int)) (set_st _ _ _ (by exact hZd.out)) hgi hnq)
   clear hu hS1
   go_upto_region 32 with fail
   have hS := hS2.out
   clear hS2 cc ff
   generalize V1.setCell ⟨q, 50, none⟩ (.int .i64 (N1 : Int)) = X1 at hS ⊢
   have hnum := Lib.hid (small_any 1 (by omega) g s1 X1 hS.rd)
   have hlt2 := numS_lt s1 (k := 1) (by omega)
   obtain ⟨N2, e2⟩ : ∃ N, (numS s1 1).1 = N := ⟨_, rfl⟩
   obtain ⟨s2, t2⟩ : ∃ s, (numS s1 1).2 = s := ⟨_, rfl⟩
   simp only [e2, t2] at hnum hlt2
   replace e2 := Lib.hid e2
   replace t2 := Lib.hid t2
   have b2 : (N2 : Int) ≤ 4294967296 := by omega
   clear hlt2
   go_wp2_with fail
   refine hnum.out.mono ?_
   rintro e V2 ⟨rfl, hR, hg⟩
   have hS1 := hS.call hR hg hgi hnq
   clear hnum hS hR hg
   obtain ⟨u, hu⟩ : ∃ u, (msC ({ Z with oc := { Z.oc with st := ((N1 : Int)) } }) nilS)[51]? = some u := ⟨_, List.getElem?_eq_getElem (by rw [msC_len (by exact hZd.out)]; decide)⟩
   have cc := (hS1.msg.cell 51).trans hu
   have ff := hS1.msg.free 51
   have hS2 := Lib.hid (hS1.put (m' := { Z with oc := { Z.oc with st := ((N1 : Int)), wn := ((N2 : Int) - 1) } }) (v' := nilS) 51 (.int .i64 ((N2 : Int) - 1)) (set_wn _ _ _ (by exact hZd.out)) hgi hnq)
   clear hu hS1
   go_upto_region 33 with fail
   have hS := hS2.out
   clear hS2 cc ff
   generalize V2.setCell ⟨q, 51, none⟩ (.int .i64 ((N2 : Int) - 1)) = X2 at hS ⊢
   have hnum := Lib.hid (refNum_any 8 g s2 X2 hS.rd)
   have hlt3 := trivial
   obtain ⟨N3, e3⟩ : ∃ N, (numS s2 8).1 = N := ⟨_, rfl⟩
   obtain ⟨s3, t3⟩ : ∃ s, (numS s2 8).2 = s := ⟨_, rfl⟩
   simp only [e3, t3] at hnum
   replace e3 := Lib.hid e3
   replace t3 := Lib.hid t3
   skip
   clear hlt3
   go_wp2_with fail
   refine hnum.out.mono ?_
   rintro e V3 ⟨rfl, hR, hg⟩
   have hS1 := hS.call hR hg hgi hnq
   clear hnum hS hR hg
   obtain ⟨u, hu⟩ : ∃ u, (msC ({ Z with oc := { Z.oc with st := ((N1 : Int)), wn := ((N2 : Int) - 1) } }) nilS)[52]? = some u := ⟨_, List.getElem?_eq_getElem (by rw [msC_len (by exact hZd.out)]; decide)⟩
   have cc := (hS1.msg.cell 52).trans hu
   have ff := hS1.msg.free 52
   have hS2 := Lib.hid (hS1.put (m' := { Z with oc := { Z.oc with st := ((N1 : Int)), wn := ((N2 : Int) - 1), pr := N3 } }) (v' := nilS) 52 (.int .u64 (N3 : Int)) (set_pr _ _ _ (by exact hZd.out)) hgi hnq)
   clear hu hS1
   go_upto_region 34 with fail
   have hS := hS2.out
   clear hS2 cc ff
   generalize V3.setCell ⟨q, 52, none⟩ (.int .u64 (N3 : Int)) = W9 at hS ⊢
   have hfin := Lib.hid (show readS k st = ({ Z with oc := { Z.oc with st := ((N1 : Int)), wn := ((N2 : Int) - 1), pr := N3 } }, s3) by rw [hrd.out, readR, if_neg (by omega), if_neg (by omega), if_neg (by omega), if_neg (by omega), if_pos y5, ← hZ.out]; simp only [e1.out, t1.out, e2.out, t2.out, e3.out, t3.out])
   have hMd : ({ Z with oc := { Z.oc with st := ((N1 : Int)), wn := ((N2 : Int) - 1), pr := N3 } } : Ms).dig.length = 32 := by exact hZd.out
   have hf53 := Lib.hid (show (Try.prog.info? 42).map (·.size) = some (msC ({ Z with oc := { Z.oc with st := ((N1 : Int)), wn := ((N2 : Int) - 1), pr := N3 } }) nilS).length by rw [msC_len hMd]; kernel_rfl)
   have h1c := Lib.hid (show ∀ u ∈ msC ({ Z with oc := { Z.oc with st := ((N1 : Int)), wn := ((N2 : Int) - 1), pr := N3 } }) nilS, u.oneCell' = true from ms_one rfl)
   have hl53 := Lib.hid (show 0 + (msC ({ Z with oc := { Z.oc with st := ((N1 : Int)), wn := ((N2 : Int) - 1), pr := N3 } }) nilS).length ≤ (msC z0 nilS).length by rw [msC_len hMd]; decide)
   have hld := Lib.hid (show ∀ j u, (msC ({ Z with oc := { Z.oc with st := ((N1 : Int)), wn := ((N2 : Int) - 1), pr := N3 } }) nilS)[j]? = some u → W9.cell? ⟨q, 0 + j, none⟩ = some u from fun j u hu => by rw [Nat.zero_add]; exact hS.msg.get hu)
   have hO4 : AtL (W9.setRow n (putL (msC z0 nilS) 0 (msC ({ Z with oc := { Z.oc with st := ((N1 : Int)), wn := ((N2 : Int) - 1), pr := N3 } }) nilS)).toArray) n 42 (msC ({ Z with oc := { Z.oc with st := ((N1 : Int)), wn := ((N2 : Int) - 1), pr := N3 } }) nilS) := by have := hS.res.row (putL (msC z0 nilS) 0 (msC ({ Z with oc := { Z.oc with st := ((N1 : Int)), wn := ((N2 : Int) - 1), pr := N3 } }) nilS)); rw [put_all (by rw [msC_len hMd, msC_len z_ok.dig])] at this ⊢; exact this
   have hC4 := Lib.hid (hS.chg.row (g := n) (.inl (Nat.le_refl _)) (putL (msC z0 nilS) 0 (msC ({ Z with oc := { Z.oc with st := ((N1 : Int)), wn := ((N2 : Int) - 1), pr := N3 } }) nilS)).toArray)
   have hR4 := Lib.hid (hS.rd.keep (below_row (Below.refl n W9) (Nat.le_refl _) (putL (msC z0 nilS) 0 (msC ({ Z with oc := { Z.oc with st := ((N1 : Int)), wn := ((N2 : Int) - 1), pr := N3 } }) nilS)).toArray) hgi)
   replace hO4 := Lib.hid hO4
   have hres := Lib.hid hS.res
   clear hS hMd
   go_wp2_with (first | (refine wpList_load_part_w rfl 42 _ rfl q 0 rfl (msC ({ Z with oc := { Z.oc with st := ((N1 : Int)), wn := ((N2 : Int) - 1), pr := N3 } }) nilS) hld.out _ Try.underlying42 rfl hf53.out ?_) | (refine wpList_store_part rfl 42 _ _ rfl n 0 (msC ({ Z with oc := { Z.oc with st := ((N1 : Int)), wn := ((N2 : Int) - 1), pr := N3 } }) nilS) rfl rfl 42 (msC z0 nilS) hres.out hf53.out hl53.out h1c.out ?_))
   refine bodyPost_ret (ret_array rfl rfl hO4.out _ Try.underlying42 rfl hf53.out) rfl ?_
   try rw [show readS 5 st = readS k st by rw [y5]]
   rw [hfin.out]
   exact ⟨nilS, rfl, by show MarksAt _ _ _ Z.marks; rw [hZm.out]; exact .nil _ _ _, hR4.out, chg_new hn.out hC4.out⟩
 by_cases y2 : k = 2
 · go_upto_region 17 with fail
   have hnum := Lib.hid (small_any 1 (by omega) g s0 W2 hS.rd)
   have hlt1 := numS_lt s0 (k := 1) (by omega)
   obtain ⟨N1, e1⟩ : ∃ N, (numS s0 1).1 = N := ⟨_, rfl⟩
   obtain ⟨s1, t1⟩ : ∃ s, (numS s0 1).2 = s := ⟨_, rfl⟩
   simp only [e1, t1] at hnum hlt1
   replace e1 := Lib.hid e1
   replace t1 := Lib.hid t1
   have b1 : (N1 : Int) ≤ 4294967296 := by omega
   clear hlt1
   go_wp2_with fail
   refine hnum.out.mono ?_
   rintro e V1 ⟨rfl, hR, hg⟩
   have hS1 := hS.call hR hg hgi hnq
   clear hnum hS hR hg
   obtain ⟨u, hu⟩ : ∃ u, (msC (Z) nilS)[2]? = some u := ⟨_, List.getElem?_eq_getElem (by rw [msC_len (by exact hZd.out)]; decide)⟩
   have cc := (hS1.msg.cell 2).trans hu
   have ff := hS1.msg.free 2
   have hS2 := Lib.hid (hS1.put (m' := { Z with car := ((N1 : Int)) }) (v' := nilS) 2 (.int .i64 (N1 : Int)) (rfl) hgi hnq)
   clear hu hS1
   go_upto_region 18 with fail
   have hS := hS2.out
   clear hS2 cc ff
   generalize V1.setCell ⟨q, 2, none⟩ (.int .i64 (N1 : Int)) = X1 at hS ⊢
   have hnum := Lib.hid (digest_any g s1 X1 hS.rd)
   have hDl := digS_len 32 s1
   obtain ⟨D, e2⟩ : ∃ D, (digS 32 s1).1 = D := ⟨_, rfl⟩
   obtain ⟨s2, t2⟩ : ∃ s, (digS 32 s1).2 = s := ⟨_, rfl⟩
   simp only [e2, t2] at hnum hDl
   replace e2 := Lib.hid e2
   replace t2 := Lib.hid t2
   go_wp2_with fail
   refine hnum.out.mono ?_
   rintro e V2 ⟨rfl, hR, hg⟩
   have hS1 := hS.call hR hg hgi hnq
   clear hnum hS hR hg
   have hS2 := Lib.hid (hS1.putAll (m' := { Z with car := (N1 : Int), dig := D }) (v' := nilS) 15 (D.map u8V) (set_dig _ _ _ (by exact hZd.out) hDl) hgi hnq)
   have hho := Lib.hid (show 15 + (D.map u8V).length ≤ (msC ({ Z with car := ((N1 : Int)) }) nilS).length by rw [msC_len (by exact hZd.out), List.length_map, hDl]; decide)
   have hdz := Lib.hid (dig_size hDl)
   have h1d := Lib.hid (one_u8 (l := D))
   have hmg := Lib.hid hS1.msg
   replace hDl := Lib.hid hDl
   clear hS1
   go_upto_region 34 with (refine wpList_store_part rfl 37 _ _ rfl q 15 (D.map u8V) rfl rfl 42 (msC ({ Z with car := ((N1 : Int)) }) nilS) hmg.out hdz.out hho.out h1d.out ?_)
   simp only [Act.put]
   have hS := hS2.out
   clear hS2 hmg
   generalize V2.setRow q (putL (msC ({ Z with car := ((N1 : Int)) }) nilS) 15 (D.map u8V)).toArray = W9 at hS ⊢
   have hfin := Lib.hid (show readS k st = ({ Z with car := (N1 : Int), dig := D }, s2) by rw [hrd.out, readR, if_neg (by omega), if_pos y2, ← hZ.out]; simp only [e1.out, t1.out, e2.out, t2.out])
   have hMd : ({ Z with car := (N1 : Int), dig := D } : Ms).dig.length = 32 := hDl.out
   have hf53 := Lib.hid (show (Try.prog.info? 42).map (·.size) = some (msC ({ Z with car := (N1 : Int), dig := D }) nilS).length by rw [msC_len hMd]; kernel_rfl)
   have h1c := Lib.hid (show ∀ u ∈ msC ({ Z with car := (N1 : Int), dig := D }) nilS, u.oneCell' = true from ms_one rfl)
   have hl53 := Lib.hid (show 0 + (msC ({ Z with car := (N1 : Int), dig := D }) nilS).length ≤ (msC z0 nilS).length by rw [msC_len hMd]; decide)
   have hld := Lib.hid (show ∀ j u, (msC ({ Z with car := (N1 : Int), dig := D }) nilS)[j]? = some u → W9.cell? ⟨q, 0 + j, none⟩ = some u from fun j u hu => by rw [Nat.zero_add]; exact hS.msg.get hu)
   have hO4 : AtL (W9.setRow n (putL (msC z0 nilS) 0 (msC ({ Z with car := (N1 : Int), dig := D }) nilS)).toArray) n 42 (msC ({ Z with car := (N1 : Int), dig := D }) nilS) := by have := hS.res.row (putL (msC z0 nilS) 0 (msC ({ Z with car := (N1 : Int), dig := D }) nilS)); rw [put_all (by rw [msC_len hMd, msC_len z_ok.dig])] at this ⊢; exact this
   have hC4 := Lib.hid (hS.chg.row (g := n) (.inl (Nat.le_refl _)) (putL (msC z0 nilS) 0 (msC ({ Z with car := (N1 : Int), dig := D }) nilS)).toArray)
   have hR4 := Lib.hid (hS.rd.keep (below_row (Below.refl n W9) (Nat.le_refl _) (putL (msC z0 nilS) 0 (msC ({ Z with car := (N1 : Int), dig := D }) nilS)).toArray) hgi)
   replace hO4 := Lib.hid hO4
   have hres := Lib.hid hS.res
   clear hS hMd
   go_wp2_with (first | (refine wpList_load_part_w rfl 42 _ rfl q 0 rfl (msC ({ Z with car := (N1 : Int), dig := D }) nilS) hld.out _ Try.underlying42 rfl hf53.out ?_) | (refine wpList_store_part rfl 42 _ _ rfl n 0 (msC ({ Z with car := (N1 : Int), dig := D }) nilS) rfl rfl 42 (msC z0 nilS) hres.out hf53.out hl53.out h1c.out ?_))
   refine bodyPost_ret (ret_array rfl rfl hO4.out _ Try.underlying42 rfl hf53.out) rfl ?_
   try rw [show readS 2 st = readS k st by rw [y2]]
   rw [hfin.out]
   exact ⟨nilS, rfl, by show MarksAt _ _ _ Z.marks; rw [hZm.out]; exact .nil _ _ _, hR4.out, chg_new hn.out hC4.out⟩
 go_upto_region 34 with fail
 generalize W2 = W9 at hS ⊢
 have hfin := Lib.hid (show readS k st = (Z, s0) by rw [hrd.out, readR, if_neg y1, if_neg y2, if_neg hk, if_neg y4, if_neg y5, ← hZ.out])
 have hMd : (Z : Ms).dig.length = 32 := by exact hZd.out
 have hf53 := Lib.hid (show (Try.prog.info? 42).map (·.size) = some (msC (Z) nilS).length by rw [msC_len hMd]; kernel_rfl)
 have h1c := Lib.hid (show ∀ u ∈ msC (Z) nilS, u.oneCell' = true from ms_one rfl)
 have hl53 := Lib.hid (show 0 + (msC (Z) nilS).length ≤ (msC z0 nilS).length by rw [msC_len hMd]; decide)
 have hld := Lib.hid (show ∀ j u, (msC (Z) nilS)[j]? = some u → W9.cell? ⟨q, 0 + j, none⟩ = some u from fun j u hu => by rw [Nat.zero_add]; exact hS.msg.get hu)
 have hO4 : AtL (W9.setRow n (putL (msC z0 nilS) 0 (msC (Z) nilS)).toArray) n 42 (msC (Z) nilS) := by have := hS.res.row (putL (msC z0 nilS) 0 (msC (Z) nilS)); rw [put_all (by rw [msC_len hMd, msC_len z_ok.dig])] at this ⊢; exact this
 have hC4 := Lib.hid (hS.chg.row (g := n) (.inl (Nat.le_refl _)) (putL (msC z0 nilS) 0 (msC (Z) nilS)).toArray)
 have hR4 := Lib.hid (hS.rd.keep (below_row (Below.refl n W9) (Nat.le_refl _) (putL (msC z0 nilS) 0 (msC (Z) nilS)).toArray) hgi)
 replace hO4 := Lib.hid hO4
 have hres := Lib.hid hS.res
 clear hS hMd
 go_wp2_with (first | (refine wpList_load_part_w rfl 42 _ rfl q 0 rfl (msC (Z) nilS) hld.out _ Try.underlying42 rfl hf53.out ?_) | (refine wpList_store_part rfl 42 _ _ rfl n 0 (msC (Z) nilS) rfl rfl 42 (msC z0 nilS) hres.out hf53.out hl53.out h1c.out ?_))
 refine bodyPost_ret (ret_array rfl rfl hO4.out _ Try.underlying42 rfl hf53.out) rfl ?_
 rw [hfin.out]
 exact ⟨nilS, rfl, by show MarksAt _ _ _ Z.marks; rw [hZm.out]; exact .nil _ _ _, hR4.out, chg_new hn.out hC4.out⟩
end Go.Proofs.Ytpefdmkfmcjfnaa.Ms
