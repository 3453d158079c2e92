import Derived.Test.YthjdacbgcpldjaaDoorPkInsWith
import Derived.Test.YthjdacbgcpldjaaDoorPkInsWay
import Derived.Test.YthjdacbgcpldjaaDoorPkLoadRuns
import Derived.Lib.QuietBelow

/-
  The contracts of package insert's Rise and Detour.
-/
namespace Go.Proofs.YthjdacbgcpldjaaDoor.Ins
open Go.RowKit Go.Sort Go.Proofs.YthjdacbgcpldjaaDoor.Mem Go.Proofs.YthjdacbgcpldjaaDoor.Route Go.Proofs.YthjdacbgcpldjaaDoor.When Go.Proofs.YthjdacbgcpldjaaDoor.Load
set_option linter.unusedVariables false

theorem ret_ii {a b c d : Int} (h : a = b) (h2 : c = d) : Ending.returned (.tuple #[.int .i64 a, .int .i64 c]) = .returned (.tuple #[.int .i64 b, .int .i64 d]) := by rw [h, h2]
theorem i64_of {t : List Rq} {r : Int} (ht : t.length ≤ maxLen) (h : inT t r = true) : I64 r := by
  have := inT_iff.1 h
  unfold maxLen at ht
  exact ⟨by omega, by omega⟩

set_option maxRecDepth 100000 in
set_option maxHeartbeats 4000000 in
theorem Rise_any (v : Vh) (vl vt : Value) (l : List (Int × Int)) (t : List Rq) (hl : l.length ≤ 1000000) (hnum : Nums l) (r i j : Int) (w : World) (hsg : Sg w) (hL : Row w.heap.size w vl l) (hT : Rqs w.heap.size w vt t) :
    Calls Tryd.prog 15 #[.agg #[.int .i64 v.hx, .int .i64 v.hy, .int .i64 v.cp, .int .i64 v.st, .int .i64 v.en], vl, vt, .int .i64 r, .int .i64 i, .int .i64 j] w fun e w' =>
      e = .returned (.tuple #[.int .i64 (riseV v l t r i j), .int .i64 (riseE v l t r i j)]) ∧ Below w.heap.size w w' := by
  obtain ⟨w0, hw0⟩ : ∃ w0, w.alloc (.cells #[.int .i64 v.hx, .int .i64 v.hy, .int .i64 v.cp, .int .i64 v.st, .int .i64 v.en] 28) = w0 := ⟨_, rfl⟩
  obtain ⟨q, hq⟩ : ∃ q, w.heap.size = q := ⟨_, rfl⟩
  have hB0 : Below q w w0 := by rw [← hw0]; exact (Below.refl _ _).alloc (by omega) _
  have hP : At w0 q 28 #[.int .i64 v.hx, .int .i64 v.hy, .int .i64 v.cp, .int .i64 v.st, .int .i64 v.en] := by rw [← hw0]; exact At.new_ _ _ _ hq.symm
  have hsg0 : Sg w0 := hsg.on (by rw [hq]; exact hB0)
  rw [hq] at hL hT
  have hs0 : q < w0.heap.size := hP.inside
  have hW := with_any v vl vt l t hl hnum r i j w0 ((hL.keep hB0 (Nat.le_refl _)).more (by omega)) ((hT.keep hB0 (Nat.le_refl _)).more (by omega))
  obtain ⟨xl, Nl, capl, rfl, hNl, hl0, hlc1, hlc2⟩ := hL.opened
  obtain ⟨xt, Nt, capt, rfl, hNt0, htc1, htc2, ht0⟩ := hT.opened
  have hNt := Lib.hid hNt0
  have hI : Hid (inT t r = true → I64 r) := Lib.hid (i64_of (by rw [hNt0]; omega))
  have hT' := Lib.hid hT
  have hnum' := Lib.hid hnum
  have p0 := hP.cell 0
  have p1 := hP.cell 1
  have p2 := hP.cell 2
  have p3 := hP.cell 3
  have p4 := hP.cell 4
  simp at p0 p1 p2 p3 p4
  have hP' := Lib.hid hP
  have hB0' := Lib.hid hB0
  have hsg0' := Lib.hid hsg0
  have hq' := Lib.hid hq
  have hw0' := Lib.hid hw0
  obtain ⟨E, hE⟩ : ∃ E, withE v l t r i j = E := ⟨_, rfl⟩
  obtain ⟨H, hH⟩ : ∃ H, endW v l t r i j = H := ⟨_, rfl⟩
  rw [hE, hH] at hW
  have hE' := Lib.hid hE
  have hH' := Lib.hid hH
  clear hL hT hNt0 ht0 hl0 hl hnum hP hB0 hsg hsg0 hq hw0 hE hH
  go_enter Tryd.func15, Tryd.ntmps15
  go_wp2_with fail
  try simp only [hq'.out]
  try rw [hw0'.out]
  refine hW.mono ?_
  clear hW p0 p1 p2 p3 p4
  rintro e w1 ⟨⟨u, rfl, hu⟩, hb1⟩
  have hB1 := Lib.hid (hB0'.out.trans (hb1.mono (by omega : q ≤ w0.heap.size)))
  have hP1 := Lib.hid (hP'.out.keep hb1 hs0)
  have hsg1 := Lib.hid (hsg0'.out.on hb1)
  have hs1 : q < w1.heap.size := hP1.out.inside
  have hu' := Lib.hid hu
  clear hu hb1 hs0
  cases he0 : (E == 0)
  · have he1 : (E != 0) = true := by simpa using he0
    have he : Hid (riseE v l t r i j = E ∧ riseE v l t r i j ≠ 0) := Lib.hid (by
      have h1 : withE v l t r i j ≠ 0 := by rw [hE'.out]; simpa using he0
      rw [riseE_with h1, hE'.out]
      exact ⟨rfl, by simpa using he0⟩)
    go_wp2
    refine bodyPost_ret (v := .tuple #[.int .i64 0, .int .i64 E]) (by simp [results, Tryd.results15, go_sem]) rfl ?_
    exact ⟨ret_ii (riseV_no he.out.2).symm he.out.1.symm, by first | exact hB1.out | (rw [hq'.out]; exact hB1.out)⟩
  have he1 : (E != 0) = false := by simpa using he0
  have hz : Hid (withE v l t r i j = 0) := Lib.hid (by rw [hE'.out]; simpa using he0)
  have hzz := withE_zero hz.out
  have hmr : Row w1.heap.size w1 u (moreL l r i j) := by have := hu'.out; unfold WithOk at this; rwa [if_pos hz.out] at this
  have hmn : Nums (moreL l r i j) := moreL_nums hnum'.out (hI.out (by have := hzz.1; simp only [Bool.and_eq_true] at this; exact this.1))
  have hml : (moreL l r i j).length ≤ 1000000 := by rw [moreL_length hzz.2.2.2.2]; have := hzz.2.2.1; omega
  obtain ⟨m, hm⟩ : ∃ m, moreL l r i j = m := ⟨_, rfl⟩
  rw [hm] at hmr hmn hml
  have hm' := Lib.hid hm
  have hmr' := Lib.hid hmr
  have hmn' := Lib.hid hmn
  have hml' := Lib.hid hml
  have hHz : Hid (H = homeT v l t) := Lib.hid (by rw [← hH'.out]; exact endW_yes hz.out)
  have hHb : 0 ≤ H ∧ H ≤ 3000000 := by rw [hHz.out]; exact homeT_bd v l t
  have hF := Fits_any v u _ m t hml hmn w1 hsg1.out hmr ((hT'.out.keep hB1.out (Nat.le_refl _)).more (by omega))
  obtain ⟨xu, Nu, cu, rfl, -⟩ := hmr.opened
  have p0 := hP1.out.cell 0
  have p1 := hP1.out.cell 1
  have p2 := hP1.out.cell 2
  have p3 := hP1.out.cell 3
  have p4 := hP1.out.cell 4
  simp at p0 p1 p2 p3 p4
  obtain ⟨F, hFe⟩ : ∃ F, fitE v m t = F := ⟨_, rfl⟩
  obtain ⟨G, hGe⟩ : ∃ G, fitAt v m t = G := ⟨_, rfl⟩
  rw [hFe, hGe] at hF
  have hFe' := Lib.hid hFe
  clear hmr hmn hml hm hzz hFe hGe
  go_wp2_with fail
  refine hF.mono ?_
  clear hF p0 p1 p2 p3 p4
  rintro e w2 ⟨rfl, hb2⟩
  have hB2 := Lib.hid (hB1.out.trans (hb2.mono (by omega : q ≤ w1.heap.size)))
  have hP2 := Lib.hid (hP1.out.keep hb2 hs1)
  have hs2 : q < w2.heap.size := hP2.out.inside
  have hmr2 := Lib.hid (hmr'.out.on hb2)
  clear hb2 hs1
  cases hf0 : (F == 0)
  · have hf1 : (F != 0) = true := by simpa using hf0
    have he : Hid (riseE v l t r i j = F ∧ riseE v l t r i j ≠ 0) := Lib.hid (by
      have h1 : fitE v (moreL l r i j) t ≠ 0 := by rw [hm'.out, hFe'.out]; simpa using hf0
      rw [riseE_fit hz.out h1, hm'.out, hFe'.out]
      exact ⟨rfl, by simpa using hf0⟩)
    go_wp2
    refine bodyPost_ret (v := .tuple #[.int .i64 0, .int .i64 F]) (by simp [results, Tryd.results15, go_sem]) rfl ?_
    exact ⟨ret_ii (riseV_no he.out.2).symm he.out.1.symm, by first | exact hB2.out | (rw [hq'.out]; exact hB2.out)⟩
  have hf1 : (F != 0) = false := by simpa using hf0
  have hfz : Hid (fitE v (moreL l r i j) t = 0) := Lib.hid (by rw [hm'.out, hFe'.out]; simpa using hf0)
  have hTi := Times_all v _ _ m t hml'.out hmn'.out w2 hmr2.out ((hT'.out.keep hB2.out (Nat.le_refl _)).more (by omega))
  have p0 := hP2.out.cell 0
  have p1 := hP2.out.cell 1
  have p2 := hP2.out.cell 2
  have p3 := hP2.out.cell 3
  have p4 := hP2.out.cell 4
  simp at p0 p1 p2 p3 p4
  obtain ⟨K, hKe⟩ : ∃ K, errT v m t = K := ⟨_, rfl⟩
  obtain ⟨L, hLe⟩ : ∃ L, homeT v m t = L := ⟨_, rfl⟩
  rw [hKe, hLe] at hTi
  have hLb : 0 ≤ L ∧ L ≤ 3000000 := by rw [← hLe]; exact homeT_bd v m t
  have hKe' := Lib.hid hKe
  have hLe' := Lib.hid hLe
  clear hKe hLe
  go_wp2_with fail
  refine hTi.mono ?_
  clear hTi p0 p1 p2 p3 p4
  rintro e w3 ⟨⟨u3, rfl, hu3, _⟩, hb3⟩
  have hB3 := Lib.hid (hB2.out.trans (hb3.mono (by omega : q ≤ w2.heap.size)))
  obtain ⟨x3, N3, c3, rfl, -⟩ := hu3.opened
  clear hb3 hs2 hu3
  have hre : Hid (riseE v l t r i j = K) := Lib.hid (by rw [riseE_err hz.out hfz.out, hm'.out, hKe'.out])
  cases hk0 : (K == 0)
  · have hk1 : (K != 0) = true := by simpa using hk0
    have he : Hid (riseE v l t r i j ≠ 0) := Lib.hid (by rw [hre.out]; simpa using hk0)
    go_wp2
    refine bodyPost_ret (v := .tuple #[.int .i64 0, .int .i64 K]) (by simp [results, Tryd.results15, go_sem]) rfl ?_
    exact ⟨ret_ii (riseV_no he.out).symm hre.out.symm, by first | exact hB3.out | (rw [hq'.out]; exact hB3.out)⟩
  have hk1 : (K != 0) = false := by simpa using hk0
  have he : Hid (riseE v l t r i j = 0) := Lib.hid (by rw [hre.out]; simpa using hk0)
  have hv : Hid (riseV v l t r i j = L - H) := Lib.hid (by rw [riseV_ok he.out, hm'.out, hLe'.out, hHz.out])
  go_wp2
  refine bodyPost_ret (v := .tuple #[.int .i64 (L - H), .int .i64 0]) (by simp [results, Tryd.results15, go_sem]) rfl ?_
  exact ⟨ret_ii hv.out.symm he.out.symm, by first | exact hB3.out | (rw [hq'.out]; exact hB3.out)⟩

set_option maxRecDepth 100000 in
set_option maxHeartbeats 4000000 in
theorem Detour_any (v : Vh) (vl vt : Value) (l : List (Int × Int)) (t : List Rq) (hl : l.length ≤ 1000000) (hnum : Nums l) (r i j : Int) (w : World) (hL : Row w.heap.size w vl l) (hT : Rqs w.heap.size w vt t) :
    Calls Tryd.prog 19 #[.agg #[.int .i64 v.hx, .int .i64 v.hy, .int .i64 v.cp, .int .i64 v.st, .int .i64 v.en], vl, vt, .int .i64 r, .int .i64 i, .int .i64 j] w fun e w' =>
      e = .returned (.tuple #[.int .i64 (detV v l t r i j), .int .i64 (withE v l t r i j)]) ∧ Below w.heap.size w w' := by
  obtain ⟨w0, hw0⟩ : ∃ w0, w.alloc (.cells #[.int .i64 v.hx, .int .i64 v.hy, .int .i64 v.cp, .int .i64 v.st, .int .i64 v.en] 28) = w0 := ⟨_, rfl⟩
  obtain ⟨q, hq⟩ : ∃ q, w.heap.size = q := ⟨_, rfl⟩
  have hB0 : Below q w w0 := by rw [← hw0]; exact (Below.refl _ _).alloc (by omega) _
  have hP : At w0 q 28 #[.int .i64 v.hx, .int .i64 v.hy, .int .i64 v.cp, .int .i64 v.st, .int .i64 v.en] := by rw [← hw0]; exact At.new_ _ _ _ hq.symm
  rw [hq] at hL hT
  have hs0 : q < w0.heap.size := hP.inside
  have hW := with_any v vl vt l t hl hnum r i j w0 ((hL.keep hB0 (Nat.le_refl _)).more (by omega)) ((hT.keep hB0 (Nat.le_refl _)).more (by omega))
  obtain ⟨xl, Nl, capl, rfl, hNl, hl0, hlc1, hlc2⟩ := hL.opened
  obtain ⟨xt, Nt, capt, rfl, hNt0, htc1, htc2, ht0⟩ := hT.opened
  have hT' := Lib.hid hT
  have hL' := Lib.hid hL
  have p0 := hP.cell 0
  have p1 := hP.cell 1
  have p2 := hP.cell 2
  have p3 := hP.cell 3
  have p4 := hP.cell 4
  simp at p0 p1 p2 p3 p4
  have hP' := Lib.hid hP
  have hB0' := Lib.hid hB0
  have hq' := Lib.hid hq
  have hw0' := Lib.hid hw0
  obtain ⟨E, hE⟩ : ∃ E, withE v l t r i j = E := ⟨_, rfl⟩
  obtain ⟨H, hH⟩ : ∃ H, endW v l t r i j = H := ⟨_, rfl⟩
  rw [hE, hH] at hW
  have hE' := Lib.hid hE
  clear hL hT hNt0 ht0 hl0 hl hnum hP hB0 hq hw0 hE hH
  go_enter Tryd.func19, Tryd.ntmps19
  go_wp2_with fail
  try simp only [hq'.out]
  try rw [hw0'.out]
  refine hW.mono ?_
  clear hW p0 p1 p2 p3 p4
  rintro e w1 ⟨⟨u, rfl, hu⟩, hb1⟩
  have hB1 := Lib.hid (hB0'.out.trans (hb1.mono (by omega : q ≤ w0.heap.size)))
  have hP1 := Lib.hid (hP'.out.keep hb1 hs0)
  have hs1 : q < w1.heap.size := hP1.out.inside
  have hu' := Lib.hid hu
  clear hu hb1 hs0
  cases he0 : (E == 0)
  · have he1 : (E != 0) = true := by simpa using he0
    have he : Hid (withE v l t r i j ≠ 0) := Lib.hid (by rw [hE'.out]; simpa using he0)
    go_wp2
    refine bodyPost_ret (v := .tuple #[.int .i64 0, .int .i64 E]) (by simp [results, Tryd.results19, go_sem]) rfl ?_
    exact ⟨ret_ii (detV_no he.out).symm hE'.out.symm, by first | exact hB1.out | (rw [hq'.out]; exact hB1.out)⟩
  have he1 : (E != 0) = false := by simpa using he0
  have hz : Hid (withE v l t r i j = 0) := Lib.hid (by rw [hE'.out]; simpa using he0)
  have hzz := withE_zero hz.out
  have hmr : Row w1.heap.size w1 u (moreL l r i j) := by have := hu'.out; unfold WithOk at this; rwa [if_pos hz.out] at this
  have hml : (moreL l r i j).length ≤ 900 := by rw [moreL_length hzz.2.2.2.2]; have := hzz.2.2.1; omega
  have hll : l.length ≤ 900 := by have := hzz.2.2.1; omega
  have hb1 := wayO_bd v (moreL l r i j) t
  have hb2 := wayO_bd v l t
  have hdv := Lib.hid (detV_ok hz.out)
  obtain ⟨m, hm⟩ : ∃ m, moreL l r i j = m := ⟨_, rfl⟩
  rw [hm] at hmr hml hb1 hdv
  obtain ⟨A1, hA1⟩ : ∃ A1, wayO v m t = A1 := ⟨_, rfl⟩
  obtain ⟨A2, hA2⟩ : ∃ A2, wayO v l t = A2 := ⟨_, rfl⟩
  rw [hA1] at hb1 hdv
  rw [hA2] at hb2 hdv
  have k1 : 0 ≤ A1 ∧ A1 ≤ 2000000 := by omega
  have k2 : 0 ≤ A2 ∧ A2 ≤ 2000000 := by omega
  have hL1 : Hid (Row w1.heap.size w1 (.slice xl Nl capl) l) := Lib.hid ((hL'.out.keep hB1.out (Nat.le_refl _)).more (by omega))
  have hT1 : Hid (Rqs w1.heap.size w1 (.slice xt Nt capt) t) := Lib.hid ((hT'.out.keep hB1.out (Nat.le_refl _)).more (by omega))
  obtain ⟨xu, Nu, cu, rfl, -⟩ := hmr.opened
  have hmr' := Lib.hid hmr
  have hC1 := fun d os => Calls.regrown_of (wayOf_any v _ _ m t hml (grow (redrawn w1 d) os) (hmr'.out.on (below_regrown w1 d os)) (hT1.out.on (below_regrown w1 d os)))
  have hC2 := fun d os => Calls.regrown_of (wayOf_any v _ _ l t hll (grow (redrawn w1 d) os) (hL1.out.on (below_regrown w1 d os)) (hT1.out.on (below_regrown w1 d os)))
  rw [hA1] at hC1
  rw [hA2] at hC2
  have p0 := hP1.out.cell 0
  have p1 := hP1.out.cell 1
  have p2 := hP1.out.cell 2
  have p3 := hP1.out.cell 3
  have p4 := hP1.out.cell 4
  simp at p0 p1 p2 p3 p4
  have q0 := cell_regrown p0
  have q1 := cell_regrown p1
  have q2 := cell_regrown p2
  have q3 := cell_regrown p3
  have q4 := cell_regrown p4
  clear p0 p1 p2 p3 p4
  have hdv' : Hid (detV v l t r i j = A1 - A2) := Lib.hid (by rw [hdv.out])
  clear hmr hml hll hzz hm hb1 hb2 hdv hA1 hA2
  go_upto_region 4 with fail
  refine wp_region_quiet_below (by kernel_rfl) (by kernel_rfl) ?_
  repeat (go_big_quiet_step (first | with_reducible exact hC1 _ _ | with_reducible exact hC2 _ _))
  refine wpQuiet_nil ?_
  intro _ hw'
  obtain ⟨⟨dr, osr⟩, hw''⟩ := hw'
  subst hw''
  have hfin := Lib.hid (hB1.out.trans ((below_regrown w1 dr osr).mono (by omega : q ≤ w1.heap.size)))
  clear hC1 hC2
  go_wp2
  refine bodyPost_ret (v := .tuple #[.int .i64 (A1 - A2), .int .i64 0]) (by simp [results, Tryd.results19, go_sem]) rfl ?_
  exact ⟨ret_ii hdv'.out.symm hz.out.symm, by first | exact hfin.out | (rw [hq'.out]; exact hfin.out)⟩

end Go.Proofs.YthjdacbgcpldjaaDoor.Ins
