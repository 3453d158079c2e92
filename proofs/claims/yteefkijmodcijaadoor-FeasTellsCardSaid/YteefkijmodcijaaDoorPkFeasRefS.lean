import Derived.Test.YteefkijmodcijaaDoorPkFeasRefL
import Derived.Test.YteefkijmodcijaaDoorPkRouteRefChk

/-
  The document's answer: what is wrong with the last one of these stops.
-/
namespace Go.Proofs.YteefkijmodcijaaDoor.Feas
open Go.RowKit Go.Sort Go.Proofs.YteefkijmodcijaaDoor.Mem Go.Proofs.YteefkijmodcijaaDoor.Route Go.Proofs.YteefkijmodcijaaDoor.When Go.Proofs.YteefkijmodcijaaDoor.Load Go.Proofs.YteefkijmodcijaaDoor.Place
set_option linter.unusedVariables false

theorem Std.vis {t : List Rq} {pre : List (Int × Int)} (h : Std t pre) (ht : ∀ q ∈ t, q.chk = 0) : ∀ s ∈ pre, ∃ x, visO t s = some x ∧ OkVi x := by
  intro s hs
  obtain ⟨p, q, e⟩ := List.append_of_mem hs
  obtain ⟨x, hx, _⟩ := stB_vis (h p s q e)
  exact ⟨x, hx, vis_ok ht hx⟩
theorem Std.ins {t : List Rq} {pre : List (Int × Int)} (h : Std t pre) : Ins t pre := by
  intro s hs
  obtain ⟨p, q, e⟩ := List.append_of_mem hs
  exact (stB_iff.1 (h p s q e)).1

set_option maxRecDepth 100000 in
set_option maxHeartbeats 4000000 in
theorem stop_any (v : Vh) (vl vt : Value) (pre : List (Int × Int)) (s1 s2 : Int) (t : List Rq) (hstd : Std t pre) (ht : ∀ q ∈ t, q.chk = 0) (hst : 0 ≤ v.st ∧ v.st ≤ 1048576) (hl : pre.length ≤ 10000) (w : World) (hL : Row w.heap.size w vl (pre ++ [(s1, s2)])) (hT : Rqs w.heap.size w vt t) :
    Calls Tryd.prog 50 #[.agg #[.int .i64 v.hx, .int .i64 v.hy, .int .i64 v.cp, .int .i64 v.st, .int .i64 v.en], vl, vt] w fun e w' => e = .returned (.int .i64 (srvV v t earlyP pre (leaveV v t pre) (s1, s2))) ∧ Below w.heap.size w w' := by
  obtain ⟨xt, Nt, capt, rfl, hNt, htc1, htc2, ht0⟩ := hT.opened
  obtain ⟨xl, N, capl, rfl, hN', h0', hlc1, hlc2⟩ := hL.opened
  obtain ⟨q, hq⟩ : ∃ q, w.heap.size = q := ⟨_, rfl⟩
  obtain ⟨K, hK⟩ : ∃ K, pre.length = K := ⟨_, rfl⟩
  obtain rfl : N = K + 1 := by rw [← hN'.out, List.length_append, hK]; rfl
  rw [hK] at hl
  have hNt' := Lib.hid hNt
  have hK' := Lib.hid hK
  rw [hq] at hL hT ⊢
  have hL' := Lib.hid hL
  have hT' := Lib.hid hT
  have hq' := Lib.hid hq
  have hstd' := Lib.hid hstd
  have ht' := Lib.hid ht
  have hst' := Lib.hid hst
  have hget : Hid ((pre ++ [(s1, s2)])[K]? = some (s1, s2)) := Lib.hid (by rw [← hK]; simp)
  unfold maxLen at htc2 hlc2
  obtain ⟨w1, hw1⟩ : ∃ w1, w.alloc (.cells #[.int .i64 v.hx, .int .i64 v.hy, .int .i64 v.cp, .int .i64 v.st, .int .i64 v.en] 34) = w1 := ⟨_, rfl⟩
  have hV1 : At w1 q 34 #[.int .i64 v.hx, .int .i64 v.hy, .int .i64 v.cp, .int .i64 v.st, .int .i64 v.en] := by rw [← hw1]; exact At.new_ _ _ _ hq.symm
  have hb1 : Below q w w1 := by rw [← hw1]; exact (Below.refl _ _).alloc (by omega) _
  have hw1' := Lib.hid hw1
  have hqs : q ≤ w1.heap.size := by have := hV1.inside; omega
  have hsrv : Hid (∀ y, srvV v t earlyP pre (leaveV v t pre) (s1, s2) = y → Ending.returned (.int .i64 y) = Ending.returned (.int .i64 (srvV v t earlyP pre (leaveV v t pre) (s1, s2)))) := Lib.hid fun y h => by rw [h]
  clear hT hNt ht0 hL h0' hw1 hq hst hK hstd ht
  go_enter Tryd.func50, Tryd.ntmps50
  go_upto_region 1 with fail
  simp only [hq'.out]
  rw [hw1'.out]
  by_cases h16 : 16 ≤ K
  · have hF := hsrv.out 11 (srv_count (by rw [hK'.out]; exact h16))
    have hF' := Lib.hid hF
    have h16i : (16 : Int) ≤ K := by omega
    clear hF
    go_wp2
    go_ret
    exact ⟨hF'.out, hb1⟩
  have h16i : ¬ (16 : Int) ≤ K := by omega
  have hKc : K ≤ capl := by omega
  have hrow : Hid (∀ W, Below q w W → Row W.heap.size W (.slice xl (K + 1) capl) (pre ++ [(s1, s2)])) := Lib.hid fun W hW => (hL'.out.keep hW (Nat.le_refl _)).more (by have := hW.size; have := hq'.out; omega)
  have hrw : Hid (∀ W, Below q w W → Row W.heap.size W (.slice xl K capl) pre) := Lib.hid fun W hW => by
    have := (hrow.out W hW).cutTo (by simp [hK'.out]) (Nat.le_succ K)
    rw [List.take_left' hK'.out] at this
    exact this
  have htab : Hid (∀ W, Below q w W → Rqs W.heap.size W (.slice xt Nt capt) t) := Lib.hid fun W hW => (hT'.out.keep hW (Nat.le_refl _)).more (by have := hW.size; have := hq'.out; omega)
  have hstop : Hid (∀ W, Below q w W → ∃ g o, xl = some ⟨g, o, none⟩ ∧ W.cell? ⟨g, o + K * 2, none⟩ = some (.int .i64 s1) ∧ W.cell? ⟨g, o + K * 2 + 1, none⟩ = some (.int .i64 s2)) := Lib.hid fun W hW => by
    obtain ⟨g, o, e, _, h1, h2⟩ := Row.stop (hL'.out.keep hW (Nat.le_refl _)) hget.out
    exact ⟨g, o, e, h1, h2⟩
  obtain ⟨gl, ol, rfl, e0, e1⟩ := hstop.out w1 hb1
  have hcell : Hid (∀ W, Below q w W → W.cell? ⟨gl, ol + K * 2, none⟩ = some (.int .i64 s1) ∧ W.cell? ⟨gl, ol + K * 2 + 1, none⟩ = some (.int .i64 s2)) := Lib.hid fun W hW => by
    obtain ⟨g, o, e, h1, h2⟩ := hstop.out W hW
    cases e
    exact ⟨h1, h2⟩
  have hlen3 : pre.length ≤ 1000000 := by have := hK'.out; omega
  have hc4 := fun d os => Calls.regrown_of (Stands_any _ _ pre t s1 s2 hlen3 (grow (redrawn w1 d) os) (hrw.out _ (hb1.trans ((below_regrown w1 d os).mono hqs))) (htab.out _ (hb1.trans ((below_regrown w1 d os).mono hqs))))
  have hst4 : standB t pre (s1, s2) = stB t pre (s1, s2) := stand_eq hstd'.out _
  obtain ⟨B, hB⟩ : ∃ B, stB t pre (s1, s2) = B := ⟨_, rfl⟩
  rw [hst4, hB] at hc4
  have hB' := Lib.hid hB
  have ke0 := cell_regrown e0
  have ke1 := cell_regrown e1
  have hKi : (K : Int) < (K + 1 : Nat) := by omega
  have hKl : K < K + 1 := by omega
  have hlenH := Lib.hid hlen3
  clear hst4 hB hL' hT' hstop hlen3
  go_upto_region 4 with fail
  refine wp_region_quiet_below (by kernel_rfl) (by kernel_rfl) ?_
  repeat (go_big_quiet_step (with_reducible exact hc4 _ _))
  refine wpQuiet_nil ?_
  intro _ hw'
  obtain ⟨⟨dq, osq⟩, hw''⟩ := hw'
  subst hw''
  have hbg := below_regrown w1 dq osq
  have hV2 := hV1.keep hbg hV1.inside
  have hb2 := hb1.trans (hbg.mono hqs)
  have hq2 : q ≤ (grow (redrawn w1 dq) osq).heap.size := by have := hbg.size; omega
  clear hc4 ke0 ke1 e0 e1 hbg hV1 hb1 hqs hw1'
  generalize grow (redrawn w1 dq) osq = w2 at *
  cases B
  · have hF := Lib.hid (hsrv.out 8 (srv_stop (by rw [hK'.out]; exact h16) hB'.out))
    go_wp2
    go_ret
    exact ⟨hF.out, hb2⟩
  have hstd2 := Lib.hid (hstd'.out.snoc hB'.out)
  obtain ⟨A, hA⟩ : ∃ A, acc t (pre ++ [(s1, s2)]) = A := ⟨_, rfl⟩
  have hc6 := fun d os => Calls.regrown_of (Board_any _ _ (pre ++ [(s1, s2)]) t (by simp; have := hK'.out; omega) ht'.out hstd2.out.ins (grow (redrawn w2 d) os) (hrow.out _ (hb2.trans ((below_regrown w2 d os).mono hq2))) (htab.out _ (hb2.trans ((below_regrown w2 d os).mono hq2))))
  rw [hA] at hc6
  have hA' := Lib.hid hA
  have c1 := hV2.cell 2
  simp at c1
  have kc1 := cell_regrown c1
  clear hA
  go_upto_region 6 with fail
  refine wp_region_quiet_below (by kernel_rfl) (by kernel_rfl) ?_
  repeat (go_big_quiet_step (with_reducible exact hc6 _ _))
  refine wpQuiet_nil ?_
  intro _ hw'
  obtain ⟨⟨dq, osq⟩, hw''⟩ := hw'
  subst hw''
  have hbg := below_regrown w2 dq osq
  have hV3 := hV2.keep hbg hV2.inside
  have hb3 := hb2.trans (hbg.mono hq2)
  have hq3 : q ≤ (grow (redrawn w2 dq) osq).heap.size := by have := hbg.size; omega
  clear hc6 c1 kc1 hbg hV2 hb2 hq2
  generalize grow (redrawn w2 dq) osq = w3 at *
  by_cases hf : v.cp < A
  · have hF := Lib.hid (hsrv.out 10 (srv_full (by rw [hK'.out]; exact h16) hB'.out (by rw [hA'.out]; omega)))
    go_wp2
    go_ret
    exact ⟨hF.out, hb3⟩
  have hc8 := Leaves_any v _ _ (pre ++ [(s1, s2)]) t (by simp; have := hK'.out; omega) hst'.out (hstd2.out.vis ht'.out) w3 (hrow.out _ hb3) (htab.out _ hb3)
  obtain ⟨x, hx, hvx⟩ := stB_vis hB'.out
  have hok := vis_ok ht'.out hx
  obtain ⟨hx1, hx2, hx3, hx4, hx5⟩ := hok
  obtain ⟨hn1, hn2⟩ := leave_bd hst'.out (hstd2.out.vis ht'.out)
  have hlk : ((pre ++ [(s1, s2)]).length : Int) ≤ 17 := by simp; have := hK'.out; omega
  have hsn := leave_snoc v t pre (s1, s2)
  rw [hvx] at hsn
  obtain ⟨S, hS⟩ : ∃ S, leaveV v t (pre ++ [(s1, s2)]) = S := ⟨_, rfl⟩
  rw [hS] at hc8 hn1 hn2 hsn
  obtain ⟨now, ax, ay⟩ := S
  simp only at hc8 hn1 hn2
  have hn3 : now ≤ 100000000 := by omega
  obtain ⟨T, hT⟩ : ∃ T, arV (leaveV v t pre) x = T := ⟨_, rfl⟩
  have hnow : now = max T x.we + x.sv := by
    have := congrArg Sp.now hsn
    unfold goE at this
    rw [hT] at this
    exact this
  have hT' := Lib.hid hT
  have hx' := Lib.hid hx
  have hvx' := Lib.hid hvx
  obtain ⟨qr, hqr, hr0, hr1, hsv, -⟩ := visO_some hx
  simp only at hqr hr0 hr1 hsv
  obtain ⟨j, rfl⟩ : ∃ j : Nat, s1 = j := ⟨s1.toNat, by omega⟩
  simp only [Int.toNat_natCast] at hqr
  have hj1 : j < Nt := by have := hNt'.out; omega
  have hj2 : (j : Int) < Nt := by omega
  obtain ⟨gt, ot, rfl, -, -⟩ := Rqs.at (htab.out _ hb3) hqr
  have hsrvc : Hid (∀ W, Below q w W → W.cell? ⟨gt, ot + j * 10 + 9, none⟩ = some (.int .i64 x.sv)) := Lib.hid fun W hW => by
    obtain ⟨g2, o2, e2, _, h3⟩ := Rqs.at (htab.out W hW) hqr
    cases e2
    rw [hsv]
    exact h3.2.2.2.2.2.2.2.2.2
  have p0 := hV3.cell 0
  have p1 := hV3.cell 1
  have p2 := hV3.cell 2
  have p3 := hV3.cell 3
  have p4 := hV3.cell 4
  simp at p0 p1 p2 p3 p4
  clear hqr hr0 hr1 hsv hn2 hlk hsn hS hT hx hvx
  go_wp2_with fail
  refine hc8.mono ?_
  clear hc8 p0 p1 p2 p3 p4
  rintro e w4 ⟨rfl, hb4⟩
  obtain ⟨m1, hm1⟩ : ∃ m1, w4.heap.size = m1 := ⟨_, rfl⟩
  obtain ⟨w5, hw5⟩ : ∃ w5, w4.alloc (.cells #[.int .i64 ax, .int .i64 ay] 32) = w5 := ⟨_, rfl⟩
  have hb45 : Below w4.heap.size w4 w5 := by rw [← hw5]; exact (Below.refl _ _).alloc (Nat.le_refl _) _
  have hb5 := hb3.trans ((hb4.trans (hb45.mono hb4.size)).mono hq3)
  have hq5 : q ≤ w5.heap.size := by have := hb4.size; have := hb45.size; omega
  have hw5' := Lib.hid hw5
  have hm1' := Lib.hid hm1
  clear hb4 hb45 hb3 hV3 hw5 hm1 hq3
  go_upto_region 9 with fail
  simp only [hm1'.out]
  rw [hw5'.out]
  obtain ⟨e0, e1⟩ := hcell.out w5 hb5
  have e9 := hsrvc.out w5 hb5
  have ke0 := cell_regrown e0
  have ke1 := cell_regrown e1
  have ke9 := cell_regrown e9
  have kW := fun d os => Calls.regrown_of (rWindow_any j s2 _ t x (grow (redrawn w5 d) os) hx'.out (htab.out _ (hb5.trans ((below_regrown w5 d os).mono hq5))))
  have hfl : ∀ W, (Instr.field 60 (.agg #[.int .i64 x.we, .int .i64 x.wl]) 1).run Tryd.prog W = .ok (.int .i64 x.wl) W := fun _ => by kernel_rfl
  refine wp_region_quiet_below (by kernel_rfl) (by kernel_rfl) ?_
  repeat (go_big_quiet_step (with_reducible exact kW _ _))
  refine wpQuiet_nil ?_
  intro _ hw'
  obtain ⟨⟨dq, osq⟩, hw''⟩ := hw'
  subst hw''
  have hbg := below_regrown w5 dq osq
  have hb6 := hb5.trans (hbg.mono hq5)
  clear kW ke0 ke1 ke9 e0 e1 e9 hfl hbg hb5 hq5
  generalize grow (redrawn w5 dq) osq = w6 at *
  by_cases hlt : x.wl < now - x.sv
  · have hF := Lib.hid (hsrv.out 9 (srv_late (by rw [hK'.out]; exact h16) hB'.out (by rw [hA'.out]; omega) (by
      rw [hvx'.out, hT'.out]
      exact decide_eq_false (by omega))))
    go_wp2
    go_ret
    exact ⟨hF.out, hb6⟩
  · have hF := Lib.hid (hsrv.out 0 (srv_ok (by rw [hK'.out]; exact h16) hB'.out (by rw [hA'.out]; omega) (by
      rw [hvx'.out, hT'.out]
      exact decide_eq_true (by omega))))
    go_wp2
    go_ret
    exact ⟨hF.out, hb6⟩

end Go.Proofs.YteefkijmodcijaaDoor.Feas
