import Derived.Test.YthjdacbgcpldjaaDoorPkInsRefWrong
import Derived.Test.YthjdacbgcpldjaaDoorPkInsRise
import Derived.Test.YthjdacbgcpldjaaDoorPkLoadRef
import Derived.Test.YthjdacbgcpldjaaDoorPkRouteRefWith

/-
  The contracts of the document's Rise and Detour.
-/
namespace Go.Proofs.YthjdacbgcpldjaaDoor.Ins
open Go.RowKit Go.Sort Go.Proofs.YthjdacbgcpldjaaDoor.Mem Go.Proofs.YthjdacbgcpldjaaDoor.Route Go.Proofs.YthjdacbgcpldjaaDoor.When Go.Proofs.YthjdacbgcpldjaaDoor.Load
set_option linter.unusedVariables false

set_option maxRecDepth 100000 in
set_option maxHeartbeats 4000000 in
theorem refRise_any (v : Vh) (vl vt : Value) (l : List (Int × Int)) (t : List Rq) (hl : l.length ≤ 1000000) (hnum : Nums l) (r i j : Int) (w : World) (hL : Row w.heap.size w vl l) (hT : Rqs w.heap.size w vt t) :
    Calls Tryd.prog 29 #[.agg #[.int .i64 v.hx, .int .i64 v.hy, .int .i64 v.cp, .int .i64 v.st, .int .i64 v.en], vl, vt, .int .i64 r, .int .i64 i, .int .i64 j] w fun e w' =>
      e = .returned (.tuple #[.int .i64 (riseV v l t r i j), .int .i64 (riseE v l t r i j)]) ∧ Below w.heap.size w w' := by
  obtain ⟨w0, hw0⟩ : ∃ w0, w.alloc (.cells #[.int .i64 v.hx, .int .i64 v.hy, .int .i64 v.cp, .int .i64 v.st, .int .i64 v.en] 28) = w0 := ⟨_, rfl⟩
  obtain ⟨q, hq⟩ : ∃ q, w.heap.size = q := ⟨_, rfl⟩
  have hB0 : Below q w w0 := by rw [← hw0]; exact (Below.refl _ _).alloc (by omega) _
  have hP : At w0 q 28 #[.int .i64 v.hx, .int .i64 v.hy, .int .i64 v.cp, .int .i64 v.st, .int .i64 v.en] := by rw [← hw0]; exact At.new_ _ _ _ hq.symm
  rw [hq] at hL hT
  have hs0 : q < w0.heap.size := hP.inside
  have hW := refWrong_any v vl vt l t hl hnum r i j w0 ((hL.keep hB0 (Nat.le_refl _)).more (by omega)) ((hT.keep hB0 (Nat.le_refl _)).more (by omega))
  obtain ⟨xl, Nl, capl, rfl, hNl, hl0, hlc1, hlc2⟩ := hL.opened
  obtain ⟨xt, Nt, capt, rfl, hNt0, htc1, htc2, ht0⟩ := hT.opened
  have hNt := Lib.hid hNt0
  have hI : Hid (inT t r = true → I64 r) := Lib.hid (i64_of (by rw [hNt0]; omega))
  have hL' := Lib.hid hL
  have hT' := Lib.hid hT
  have hl' := Lib.hid hl
  have hnum' := Lib.hid hnum
  have p0 := hP.cell 0
  have p1 := hP.cell 1
  have p2 := hP.cell 2
  have p3 := hP.cell 3
  have p4 := hP.cell 4
  simp at p0 p1 p2 p3 p4
  have hP' := Lib.hid hP
  have hB0' := Lib.hid hB0
  have hq' := Lib.hid hq
  have hw0' := Lib.hid hw0
  obtain ⟨E, hE⟩ : ∃ E, withE v l t r i j = E := ⟨_, rfl⟩
  rw [hE] at hW
  have hE' := Lib.hid hE
  clear hL hT hNt0 ht0 hl0 hl hnum hP hB0 hq hw0 hE
  go_enter Tryd.func29, Tryd.ntmps29
  go_wp2_with fail
  try simp only [hq'.out]
  try rw [hw0'.out]
  refine hW.mono ?_
  clear hW p0 p1 p2 p3 p4
  rintro e w1 ⟨rfl, hb1⟩
  have hB1 := Lib.hid (hB0'.out.trans (hb1.mono (by omega : q ≤ w0.heap.size)))
  have hP1 := Lib.hid (hP'.out.keep hb1 hs0)
  have hs1 : q < w1.heap.size := hP1.out.inside
  clear hb1 hs0
  cases he0 : (E == 0)
  · have he1 : (E != 0) = true := by simpa using he0
    have he : Hid (riseE v l t r i j = E ∧ riseE v l t r i j ≠ 0) := Lib.hid (by
      have h1 : withE v l t r i j ≠ 0 := by rw [hE'.out]; simpa using he0
      rw [riseE_with h1, hE'.out]
      exact ⟨rfl, by simpa using he0⟩)
    go_wp2
    refine bodyPost_ret (v := .tuple #[.int .i64 0, .int .i64 E]) (by simp [results, Tryd.results29, go_sem]) rfl ?_
    exact ⟨ret_ii (riseV_no he.out.2).symm he.out.1.symm, by first | exact hB1.out | (rw [hq'.out]; exact hB1.out)⟩
  have he1 : (E != 0) = false := by simpa using he0
  have hz : Hid (withE v l t r i j = 0) := Lib.hid (by rw [hE'.out]; simpa using he0)
  have hzz := withE_zero hz.out
  have hWi := refWith_any _ l r i j hl'.out w1 ((hL'.out.keep hB1.out (Nat.le_refl _)).more (by omega))
  rw [withV_more hzz.2.2.2.2, hzz.2.2.2.2] at hWi
  have hmn : Nums (moreL l r i j) := moreL_nums hnum'.out (hI.out (by have := hzz.1; simp only [Bool.and_eq_true] at this; exact this.1))
  have hml : (moreL l r i j).length ≤ 900 := by rw [moreL_length hzz.2.2.2.2]; have := hzz.2.2.1; omega
  have hll : l.length ≤ 900 := by have := hzz.2.2.1; omega
  have hwb1 := wayO_bd v (moreL l r i j) t
  have hwb2 := wayO_bd v l t
  have hdv := detV_ok hz.out
  obtain ⟨m, hm⟩ : ∃ m, moreL l r i j = m := ⟨_, rfl⟩
  rw [hm] at hWi hmn hml hwb1 hdv
  have hm' := Lib.hid hm
  have hmn' := Lib.hid hmn
  have hml' := Lib.hid hml
  have hll' := Lib.hid hll
  have hdv' := Lib.hid hdv
  clear hm hzz hmn hdv
  go_wp2_with fail
  refine hWi.mono ?_
  clear hWi
  rintro e w2 ⟨⟨u, rfl, hu⟩, hb2⟩
  have hB2 := Lib.hid (hB1.out.trans (hb2.mono (by omega : q ≤ w1.heap.size)))
  have hP2 := Lib.hid (hP1.out.keep hb2 hs1)
  have hs2 : q < w2.heap.size := hP2.out.inside
  obtain ⟨xu, Nu, cu, rfl, -⟩ := hu.opened
  have hu2 := Lib.hid hu
  clear hb2 hs1 hu
  have hF := refFits_any v _ _ m t (by have := hml'.out; omega) w2 hu2.out ((hT'.out.keep hB2.out (Nat.le_refl _)).more (by omega))
  obtain ⟨F, hFe⟩ : ∃ F, fitE v m t = F := ⟨_, rfl⟩
  obtain ⟨G, hGe⟩ : ∃ G, fitAt v m t = G := ⟨_, rfl⟩
  rw [hFe, hGe] at hF
  have hFe' := Lib.hid hFe
  clear hFe hGe hwb1 hwb2
  have p0 := hP2.out.cell 0
  have p1 := hP2.out.cell 1
  have p2 := hP2.out.cell 2
  have p3 := hP2.out.cell 3
  have p4 := hP2.out.cell 4
  simp at p0 p1 p2 p3 p4
  go_wp2_with fail
  refine (hF).mono ?_
  clear p0 p1 p2 p3 p4
  rintro e w3 ⟨rfl, hb3⟩
  have hB3 := Lib.hid (hB2.out.trans (hb3.mono (by omega : q ≤ w2.heap.size)))
  have hP3 := Lib.hid (hP2.out.keep hb3 hs2)
  have hs3 : q < w3.heap.size := hP3.out.inside
  have hu3 := Lib.hid (hu2.out.on hb3)
  clear hb3 hs2
  clear hF
  cases hf0 : (F == 0)
  · have hf1 : (F != 0) = true := by simpa using hf0
    have he : Hid (riseE v l t r i j = F ∧ riseE v l t r i j ≠ 0) := Lib.hid (by
      have h1 : fitE v (moreL l r i j) t ≠ 0 := by rw [hm'.out, hFe'.out]; simpa using hf0
      rw [riseE_fit hz.out h1, hm'.out, hFe'.out]
      exact ⟨rfl, by simpa using hf0⟩)
    go_wp2
    refine bodyPost_ret (v := .tuple #[.int .i64 0, .int .i64 F]) (by simp [results, Tryd.results29, go_sem]) rfl ?_
    exact ⟨ret_ii (riseV_no he.out.2).symm he.out.1.symm, by first | exact hB3.out | (rw [hq'.out]; exact hB3.out)⟩
  have hf1 : (F != 0) = false := by simpa using hf0
  have hfz : Hid (fitE v (moreL l r i j) t = 0) := Lib.hid (by rw [hm'.out, hFe'.out]; simpa using hf0)
  have hT1 := refTimes_any v _ _ l t hl'.out hnum'.out w3 ((hL'.out.keep hB3.out (Nat.le_refl _)).more (by omega)) ((hT'.out.keep hB3.out (Nat.le_refl _)).more (by omega))
  obtain ⟨H, hHe⟩ : ∃ H, homeT v l t = H := ⟨_, rfl⟩
  obtain ⟨J, hJe⟩ : ∃ J, errT v l t = J := ⟨_, rfl⟩
  rw [hHe, hJe] at hT1
  have hHb : 0 ≤ H ∧ H ≤ 3000000 := by rw [← hHe]; exact homeT_bd v l t
  have hHe' := Lib.hid hHe
  clear hHe hJe
  have p0 := hP3.out.cell 0
  have p1 := hP3.out.cell 1
  have p2 := hP3.out.cell 2
  have p3 := hP3.out.cell 3
  have p4 := hP3.out.cell 4
  simp at p0 p1 p2 p3 p4
  go_wp2_with fail
  refine (hT1).mono ?_
  clear p0 p1 p2 p3 p4
  rintro e w4 ⟨⟨u4, rfl, hr4⟩, hb4⟩
  have hB4 := Lib.hid (hB3.out.trans (hb4.mono (by omega : q ≤ w3.heap.size)))
  have hP4 := Lib.hid (hP3.out.keep hb4 hs3)
  have hs4 : q < w4.heap.size := hP4.out.inside
  have hu4 := Lib.hid (hu3.out.on hb4)
  obtain ⟨x4, N4, c4, rfl, -⟩ := hr4.opened
  clear hr4
  clear hb4 hs3
  clear hT1
  have hT2 := refTimes_any v _ _ m t (by have := hml'.out; omega) hmn'.out w4 hu4.out ((hT'.out.keep hB4.out (Nat.le_refl _)).more (by omega))
  obtain ⟨K, hKe⟩ : ∃ K, errT v m t = K := ⟨_, rfl⟩
  obtain ⟨L, hLe⟩ : ∃ L, homeT v m t = L := ⟨_, rfl⟩
  rw [hKe, hLe] at hT2
  have hLb : 0 ≤ L ∧ L ≤ 3000000 := by rw [← hLe]; exact homeT_bd v m t
  have hKe' := Lib.hid hKe
  have hLe' := Lib.hid hLe
  clear hKe hLe
  have p0 := hP4.out.cell 0
  have p1 := hP4.out.cell 1
  have p2 := hP4.out.cell 2
  have p3 := hP4.out.cell 3
  have p4 := hP4.out.cell 4
  simp at p0 p1 p2 p3 p4
  go_wp2_with fail
  refine (hT2).mono ?_
  clear p0 p1 p2 p3 p4
  rintro e w5 ⟨⟨u5, rfl, hr5⟩, hb5⟩
  have hB5 := Lib.hid (hB4.out.trans (hb5.mono (by omega : q ≤ w4.heap.size)))
  have hP5 := Lib.hid (hP4.out.keep hb5 hs4)
  have hs5 : q < w5.heap.size := hP5.out.inside
  have hu5 := Lib.hid (hu4.out.on hb5)
  obtain ⟨x5, N5, c5, rfl, -⟩ := hr5.opened
  clear hr5
  clear hb5 hs4
  clear hT2
  have hre : Hid (riseE v l t r i j = K) := Lib.hid (by rw [riseE_err hz.out hfz.out, hm'.out, hKe'.out])
  cases hk0 : (K == 0)
  · have hk1 : (K != 0) = true := by simpa using hk0
    have he : Hid (riseE v l t r i j ≠ 0) := Lib.hid (by rw [hre.out]; simpa using hk0)
    go_wp2
    refine bodyPost_ret (v := .tuple #[.int .i64 0, .int .i64 K]) (by simp [results, Tryd.results29, go_sem]) rfl ?_
    exact ⟨ret_ii (riseV_no he.out).symm hre.out.symm, by first | exact hB5.out | (rw [hq'.out]; exact hB5.out)⟩
  have hk1 : (K != 0) = false := by simpa using hk0
  have he : Hid (riseE v l t r i j = 0) := Lib.hid (by rw [hre.out]; simpa using hk0)
  have hv : Hid (riseV v l t r i j = L - H) := Lib.hid (by rw [riseV_ok he.out, hm'.out, hLe'.out, hHe'.out])
  go_wp2
  refine bodyPost_ret (v := .tuple #[.int .i64 (L - H), .int .i64 0]) (by simp [results, Tryd.results29, go_sem]) rfl ?_
  exact ⟨ret_ii hv.out.symm he.out.symm, by first | exact hB5.out | (rw [hq'.out]; exact hB5.out)⟩

set_option maxRecDepth 100000 in
set_option maxHeartbeats 4000000 in
theorem refDetour_any (v : Vh) (vl vt : Value) (l : List (Int × Int)) (t : List Rq) (hl : l.length ≤ 1000000) (hnum : Nums l) (r i j : Int) (w : World) (hL : Row w.heap.size w vl l) (hT : Rqs w.heap.size w vt t) :
    Calls Tryd.prog 30 #[.agg #[.int .i64 v.hx, .int .i64 v.hy, .int .i64 v.cp, .int .i64 v.st, .int .i64 v.en], vl, vt, .int .i64 r, .int .i64 i, .int .i64 j] w fun e w' =>
      e = .returned (.tuple #[.int .i64 (detV v l t r i j), .int .i64 (withE v l t r i j)]) ∧ Below w.heap.size w w' := by
  obtain ⟨w0, hw0⟩ : ∃ w0, w.alloc (.cells #[.int .i64 v.hx, .int .i64 v.hy, .int .i64 v.cp, .int .i64 v.st, .int .i64 v.en] 28) = w0 := ⟨_, rfl⟩
  obtain ⟨q, hq⟩ : ∃ q, w.heap.size = q := ⟨_, rfl⟩
  have hB0 : Below q w w0 := by rw [← hw0]; exact (Below.refl _ _).alloc (by omega) _
  have hP : At w0 q 28 #[.int .i64 v.hx, .int .i64 v.hy, .int .i64 v.cp, .int .i64 v.st, .int .i64 v.en] := by rw [← hw0]; exact At.new_ _ _ _ hq.symm
  rw [hq] at hL hT
  have hs0 : q < w0.heap.size := hP.inside
  have hW := refWrong_any v vl vt l t hl hnum r i j w0 ((hL.keep hB0 (Nat.le_refl _)).more (by omega)) ((hT.keep hB0 (Nat.le_refl _)).more (by omega))
  obtain ⟨xl, Nl, capl, rfl, hNl, hl0, hlc1, hlc2⟩ := hL.opened
  obtain ⟨xt, Nt, capt, rfl, hNt0, htc1, htc2, ht0⟩ := hT.opened
  have hNt := Lib.hid hNt0
  have hI : Hid (inT t r = true → I64 r) := Lib.hid (i64_of (by rw [hNt0]; omega))
  have hL' := Lib.hid hL
  have hT' := Lib.hid hT
  have hl' := Lib.hid hl
  have hnum' := Lib.hid hnum
  have p0 := hP.cell 0
  have p1 := hP.cell 1
  have p2 := hP.cell 2
  have p3 := hP.cell 3
  have p4 := hP.cell 4
  simp at p0 p1 p2 p3 p4
  have hP' := Lib.hid hP
  have hB0' := Lib.hid hB0
  have hq' := Lib.hid hq
  have hw0' := Lib.hid hw0
  obtain ⟨E, hE⟩ : ∃ E, withE v l t r i j = E := ⟨_, rfl⟩
  rw [hE] at hW
  have hE' := Lib.hid hE
  clear hL hT hNt0 ht0 hl0 hl hnum hP hB0 hq hw0 hE
  go_enter Tryd.func30, Tryd.ntmps30
  go_wp2_with fail
  try simp only [hq'.out]
  try rw [hw0'.out]
  refine hW.mono ?_
  clear hW p0 p1 p2 p3 p4
  rintro e w1 ⟨rfl, hb1⟩
  have hB1 := Lib.hid (hB0'.out.trans (hb1.mono (by omega : q ≤ w0.heap.size)))
  have hP1 := Lib.hid (hP'.out.keep hb1 hs0)
  have hs1 : q < w1.heap.size := hP1.out.inside
  clear hb1 hs0
  cases he0 : (E == 0)
  · have he1 : (E != 0) = true := by simpa using he0
    have he : Hid (withE v l t r i j ≠ 0) := Lib.hid (by rw [hE'.out]; simpa using he0)
    go_wp2
    refine bodyPost_ret (v := .tuple #[.int .i64 0, .int .i64 E]) (by simp [results, Tryd.results30, go_sem]) rfl ?_
    exact ⟨ret_ii (detV_no he.out).symm hE'.out.symm, by first | exact hB1.out | (rw [hq'.out]; exact hB1.out)⟩
  have he1 : (E != 0) = false := by simpa using he0
  have hz : Hid (withE v l t r i j = 0) := Lib.hid (by rw [hE'.out]; simpa using he0)
  have hzz := withE_zero hz.out
  have hWi := refWith_any _ l r i j hl'.out w1 ((hL'.out.keep hB1.out (Nat.le_refl _)).more (by omega))
  rw [withV_more hzz.2.2.2.2, hzz.2.2.2.2] at hWi
  have hmn : Nums (moreL l r i j) := moreL_nums hnum'.out (hI.out (by have := hzz.1; simp only [Bool.and_eq_true] at this; exact this.1))
  have hml : (moreL l r i j).length ≤ 900 := by rw [moreL_length hzz.2.2.2.2]; have := hzz.2.2.1; omega
  have hll : l.length ≤ 900 := by have := hzz.2.2.1; omega
  have hwb1 := wayO_bd v (moreL l r i j) t
  have hwb2 := wayO_bd v l t
  have hdv := detV_ok hz.out
  obtain ⟨m, hm⟩ : ∃ m, moreL l r i j = m := ⟨_, rfl⟩
  rw [hm] at hWi hmn hml hwb1 hdv
  have hm' := Lib.hid hm
  have hmn' := Lib.hid hmn
  have hml' := Lib.hid hml
  have hll' := Lib.hid hll
  have hdv' := Lib.hid hdv
  clear hm hzz hmn hdv
  go_wp2_with fail
  refine hWi.mono ?_
  clear hWi
  rintro e w2 ⟨⟨u, rfl, hu⟩, hb2⟩
  have hB2 := Lib.hid (hB1.out.trans (hb2.mono (by omega : q ≤ w1.heap.size)))
  have hP2 := Lib.hid (hP1.out.keep hb2 hs1)
  have hs2 : q < w2.heap.size := hP2.out.inside
  obtain ⟨xu, Nu, cu, rfl, -⟩ := hu.opened
  have hu2 := Lib.hid hu
  clear hb2 hs1 hu
  obtain ⟨A1, hA1⟩ : ∃ A1, wayO v m t = A1 := ⟨_, rfl⟩
  obtain ⟨A2, hA2⟩ : ∃ A2, wayO v l t = A2 := ⟨_, rfl⟩
  rw [hA1] at hwb1
  rw [hA2] at hwb2
  have hdv2 : Hid (detV v l t r i j = A1 - A2) := Lib.hid (by rw [hdv'.out, hA1, hA2])
  have k1 : 0 ≤ A1 ∧ A1 ≤ 2000000 := by omega
  have k2 : 0 ≤ A2 ∧ A2 ≤ 2000000 := by omega
  have hL2 : Hid (Row w2.heap.size w2 (.slice xl Nl capl) l) := Lib.hid ((hL'.out.keep hB2.out (Nat.le_refl _)).more (by omega))
  have hT2 : Hid (Rqs w2.heap.size w2 (.slice xt Nt capt) t) := Lib.hid ((hT'.out.keep hB2.out (Nat.le_refl _)).more (by omega))
  have hC1 := fun d os => Calls.regrown_of (refWay_any v _ _ m t hml'.out (grow (redrawn w2 d) os) (hu2.out.on (below_regrown w2 d os)) (hT2.out.on (below_regrown w2 d os)))
  have hC2 := fun d os => Calls.regrown_of (refWay_any v _ _ l t hll'.out (grow (redrawn w2 d) os) (hL2.out.on (below_regrown w2 d os)) (hT2.out.on (below_regrown w2 d os)))
  rw [hA1] at hC1
  rw [hA2] at hC2
  have p0 := hP2.out.cell 0
  have p1 := hP2.out.cell 1
  have p2 := hP2.out.cell 2
  have p3 := hP2.out.cell 3
  have p4 := hP2.out.cell 4
  simp at p0 p1 p2 p3 p4
  have q0 := cell_regrown p0
  have q1 := cell_regrown p1
  have q2 := cell_regrown p2
  have q3 := cell_regrown p3
  have q4 := cell_regrown p4
  clear p0 p1 p2 p3 p4 hwb1 hwb2 hml hll hA1 hA2
  go_upto_region 5 with fail
  refine wp_region_quiet_below (by kernel_rfl) (by kernel_rfl) ?_
  repeat (go_big_quiet_step (first | with_reducible exact hC1 _ _ | with_reducible exact hC2 _ _))
  refine wpQuiet_nil ?_
  intro _ hw'
  obtain ⟨⟨dr, osr⟩, hw''⟩ := hw'
  subst hw''
  have hfin := Lib.hid (hB2.out.trans ((below_regrown w2 dr osr).mono (by omega : q ≤ w2.heap.size)))
  clear hC1 hC2
  go_wp2
  refine bodyPost_ret (v := .tuple #[.int .i64 (A1 - A2), .int .i64 0]) (by simp [results, Tryd.results30, go_sem]) rfl ?_
  exact ⟨ret_ii hdv2.out.symm hz.out.symm, by first | exact hfin.out | (rw [hq'.out]; exact hfin.out)⟩

end Go.Proofs.YthjdacbgcpldjaaDoor.Ins
