import Derived.Test.YtfoflfeaegfnnaaPkSlackRefLatest
import Derived.Test.YtfoflfeaegfnnaaPkSlackRefPush
import Derived.Test.YtfoflfeaegfnnaaPkSlackInts

/-
  The contract of the law's told.
-/
namespace Go.Proofs.Ytfoflfeaegfnnaa.Slack
open Go.RowKit Go.Sort Go.Proofs.Ytfoflfeaegfnnaa.Mem Go.Proofs.Ytfoflfeaegfnnaa.Route Go.Proofs.Ytfoflfeaegfnnaa.When Go.Proofs.Ytfoflfeaegfnnaa.Tail
set_option linter.unusedVariables false

theorem float_len (v : Vh) (l : List (Int × Int)) (t : List Rq) : (floatV v l t).length = (latestV v l t).length ∧ (latestV v l t).length ≤ l.length := by
  by_cases h : errT v l t = 0
  · have h1 := latest_len h
    have h2 : (timesL v l t).length = l.length := by unfold timesL; rw [if_pos h, rowT_length]
    unfold floatV floatL
    rw [List.length_zipWith, h1, h2]
    omega
  · have h1 : latestV v l t = [] := by unfold latestV; rw [if_neg h]
    unfold floatV floatL
    rw [h1]
    simp
theorem float_at {v : Vh} {l : List (Int × Int)} {t : List Rq} {k : Nat} (hk : k < (latestV v l t).length) :
    ∃ (B n : Int) (x : Tm), (latestV v l t)[k]? = some (B + n) ∧ (timesL v l t)[k]? = some x ∧ x.be = B ∧ (floatV v l t)[k]? = some n ∧ 0 ≤ B ∧ B ≤ 1048576 ∧ 0 ≤ n ∧ n ≤ 1048576 := by
  have h : errT v l t = 0 := by
    apply Classical.byContradiction
    intro h
    have h1 : latestV v l t = [] := by unfold latestV; rw [if_neg h]
    rw [h1] at hk
    cases hk
  rw [latest_len h] at hk
  obtain ⟨B, F, ⟨x, hx1, hx2⟩, hA, hB1, hB2, hF1, hF2, -⟩ := search_facts h hk
  refine ⟨B, F, x, hA, hx1, hx2, ?_, hB1, hB2, hF1, hF2⟩
  unfold floatV floatL
  rw [List.getElem?_zipWith, hA, hx1]
  simp only [Option.some.injEq]
  omega

set_option maxRecDepth 100000 in
set_option maxHeartbeats 4000000 in
theorem told_any (v : Vh) (vl vt : Value) (l : List (Int × Int)) (t : List Rq) (hl : l.length ≤ 1000000) (hnum : Nums l) (n0 n1 : Int) (hn0 : I64 n0) (hn1 : I64 n1) (w : World) (hL : Row w.heap.size w vl l) (hT : Rqs w.heap.size w vt t) :
    Calls Try.prog 8 #[.agg #[.int .i64 v.hx, .int .i64 v.hy, .int .i64 v.cp, .int .i64 v.st, .int .i64 v.en], vl, vt, .agg #[.int .i64 n0, .int .i64 n1]] w fun e w' => e = .returned (.bool true) ∧ Below w.heap.size w w' := by
  obtain ⟨q, hq⟩ : ∃ q, w.heap.size = q := ⟨_, rfl⟩
  obtain ⟨w1, hw1⟩ : ∃ w1, (w.alloc (.cells #[.int .i64 v.hx, .int .i64 v.hy, .int .i64 v.cp, .int .i64 v.st, .int .i64 v.en] 31)).alloc (.cells #[.int .i64 n0, .int .i64 n1] 34) = w1 := ⟨_, rfl⟩
  have hP1 : At w1 q 31 #[.int .i64 v.hx, .int .i64 v.hy, .int .i64 v.cp, .int .i64 v.st, .int .i64 v.en] := by rw [← hw1]; exact (At.new_ _ _ _ hq.symm).alloc _
  have hN1 : At w1 (q + 1) 34 #[.int .i64 n0, .int .i64 n1] := by rw [← hw1]; exact At.new_ _ _ _ (by simp [hq])
  have hb0 : Below w.heap.size w w1 := by rw [← hw1]; exact ((Below.refl _ _).alloc (Nat.le_refl _) _).alloc (by simp) _
  have hLat := Lib.hid (fun (W : World) (hb : Below w.heap.size w W) => Latest_all v vl vt l t hl hnum W (hL.on hb) (hT.on hb))
  have hRef := Lib.hid (fun (W : World) (hb : Below w.heap.size w W) => RefLatest_all v vl vt l t hl hnum W (hL.on hb) (hT.on hb))
  have hFlo := Lib.hid (fun (W : World) (hb : Below w.heap.size w W) => Float_all v vl vt l t hl hnum W (hL.on hb) (hT.on hb))
  have hFro := Lib.hid (fun (W : World) (hb : Below w.heap.size w W) => From_all v vl vt l t hl hnum (-1) 0 (by omega) W (hL.on hb) (hT.on hb))
  have hPus := Lib.hid (fun (i j : Int) (W : World) (hb : Below w.heap.size w W) => Push_all v vl vt l t hl hnum i j W (hL.on hb) (hT.on hb))
  have hRPu := Lib.hid (fun (i j : Int) (W : World) (hb : Below w.heap.size w W) => RefPush_all v vl vt l t hl hnum i j W (hL.on hb) (hT.on hb))
  obtain ⟨xl, Nl, capl, rfl, hNl, hl0, hlc1, hlc2⟩ := hL.opened
  obtain ⟨xt, Nt, capt, rfl, hNt0, htc1, htc2, ht0⟩ := hT.opened
  rw [fromE_no (.inl rfl), (from_no (.inl rfl)).1, (from_no (.inl rfl)).2] at hFro
  obtain ⟨E, hE⟩ : ∃ E, errT v l t = E := ⟨_, rfl⟩
  obtain ⟨H, hH⟩ : ∃ E, homeT v l t = E := ⟨_, rfl⟩
  rw [hE] at hLat hRef hFlo hFro
  rw [hH] at hFro
  have hflen := Lib.hid (float_len v l t)
  have hll : Hid (l.length ≤ 1000000) := Lib.hid hl
  clear hL hT hNt0 ht0 hnum hl0 hE hH hNl hlc1 hlc2 htc1 htc2 hl
  have hP1' := Lib.hid hP1
  have hN1' := Lib.hid hN1
  have hb0' := Lib.hid hb0
  have hw1' := Lib.hid hw1
  have hc := hLat.out w1 hb0
  have p0 := hP1.cell 0
  have p1 := hP1.cell 1
  have p2 := hP1.cell 2
  have p3 := hP1.cell 3
  have p4 := hP1.cell 4
  simp at p0 p1 p2 p3 p4
  have hPs1 := hP1.inside
  clear hP1 hN1 hb0 hw1
  go_enter Try.func8, Try.ntmps8
  go_upto_region 1 with fail
  rw [hw1'.out]
  go_wp2_with fail
  refine hc.mono ?_
  clear hc p0 p1 p2 p3 p4 hw1'
  rintro e w2 ⟨⟨u1, rfl, hu1, _⟩, hb1⟩
  have hP2 := hP1'.out.keep hb1 hP1'.out.inside
  have hP2' := Lib.hid hP2
  have hN2' := Lib.hid (hN1'.out.keep hb1 hN1'.out.inside)
  have hB2 := Lib.hid (hb0'.out.trans (hb1.mono hb0'.out.size))
  have hv1 := Lib.hid hu1
  have hc := hRef.out w2 hB2.out
  have p0 := hP2.cell 0
  have p1 := hP2.cell 1
  have p2 := hP2.cell 2
  have p3 := hP2.cell 3
  have p4 := hP2.cell 4
  simp at p0 p1 p2 p3 p4
  have hPs2 := hP2.inside
  clear hP2 hb1 hu1
  clear hP1' hN1'
  go_wp2_with fail
  refine hc.mono ?_
  clear hc p0 p1 p2 p3 p4
  rintro e w3 ⟨⟨u2, rfl, hu2⟩, hb1⟩
  have hP3 := hP2'.out.keep hb1 hP2'.out.inside
  have hP3' := Lib.hid hP3
  have hN3' := Lib.hid (hN2'.out.keep hb1 hN2'.out.inside)
  have hB3 := Lib.hid (hB2.out.trans (hb1.mono hB2.out.size))
  have hv1 := Lib.hid (hv1.out.on hb1)
  have hv2 := Lib.hid hu2
  have hc := hFlo.out w3 hB3.out
  have p0 := hP3.cell 0
  have p1 := hP3.cell 1
  have p2 := hP3.cell 2
  have p3 := hP3.cell 3
  have p4 := hP3.cell 4
  simp at p0 p1 p2 p3 p4
  have hPs3 := hP3.inside
  clear hP3 hb1 hu2
  clear hP2' hN2' hB2 hPs1
  go_wp2_with fail
  refine hc.mono ?_
  clear hc p0 p1 p2 p3 p4
  rintro e w4 ⟨⟨u3, rfl, hu3, _⟩, hb1⟩
  have hP4 := hP3'.out.keep hb1 hP3'.out.inside
  have hP4' := Lib.hid hP4
  have hN4' := Lib.hid (hN3'.out.keep hb1 hN3'.out.inside)
  have hB4 := Lib.hid (hB3.out.trans (hb1.mono hB3.out.size))
  have hv1 := Lib.hid (hv1.out.on hb1)
  have hv2 := Lib.hid (hv2.out.on hb1)
  have hv3 := Lib.hid hu3
  have hc := hFro.out w4 hB4.out
  have p0 := hP4.cell 0
  have p1 := hP4.cell 1
  have p2 := hP4.cell 2
  have p3 := hP4.cell 3
  have p4 := hP4.cell 4
  simp at p0 p1 p2 p3 p4
  have hPs4 := hP4.inside
  clear hP4 hb1 hu3
  clear hP3' hN3' hB3 hPs2
  go_wp2_with fail
  refine hc.mono ?_
  clear hc p0 p1 p2 p3 p4
  rintro e w5 ⟨⟨u4, rfl, hu4, _⟩, hb1⟩
  have hP5 := hP4'.out.keep hb1 hP4'.out.inside
  have hP5' := Lib.hid hP5
  have hN5' := Lib.hid (hN4'.out.keep hb1 hN4'.out.inside)
  have hB5 := Lib.hid (hB4.out.trans (hb1.mono hB4.out.size))
  have hv1 := Lib.hid (hv1.out.on hb1)
  have hv2 := Lib.hid (hv2.out.on hb1)
  have hv3 := Lib.hid (hv3.out.on hb1)
  have hv4 := Lib.hid hu4
  clear hP5 hb1 hu4 hP4' hN4' hB4 hPs3
  have hc := ints_any u1 u2 _ _ (by have := hflen.out.2; have := hll.out; omega) w5 hv1.out hv2.out
  rw [show decide (latestV v l t = latestV v l t) = true from decide_eq_true rfl] at hc
  obtain ⟨x2, N2, c2, rfl, hN2, h21, h22⟩ := hv2.out.opened
  obtain ⟨x3, N3, c3, rfl, hN3, h31, h32⟩ := hv3.out.opened
  have hN32 : N3 = N2 := by rw [← hN3.out, ← hN2.out]; exact hflen.out.1
  subst hN32
  obtain ⟨x4, N4, c4, rfl, hN4, h41, h42, h43⟩ := hv4.out.opened
  have hN4' := Lib.hid hN4
  unfold maxLen at h32 h42
  clear hN4 h43 h21 h22
  go_wp2_with fail
  refine hc.mono ?_
  clear hc
  rintro e w6 ⟨rfl, hb1⟩
  have hv2' := Lib.hid (hv2.out.on hb1)
  have hv3' := Lib.hid (hv3.out.on hb1)
  have hv4' := Lib.hid (hv4.out.on hb1)
  have hB6 := Lib.hid (hB5.out.trans (hb1.mono hB5.out.size))
  have hP6 := Lib.hid (hP5'.out.keep hb1 hP5'.out.inside)
  have hN6 := Lib.hid (hN5'.out.keep hb1 hN5'.out.inside)
  clear hb1 hv1 hv2 hv3 hv4 hB5 hP5' hN5'
  clear hLat hRef hFlo hFro
  go_wp2
  go_loopw [18] (fun kk wr => ∃ k : Nat, kk = .int .i64 k ∧ k ≤ N3 ∧ Below w6.heap.size w6 wr) (fun kk _ => N3 - (intOf kk).toNat)
  case atStart => exact ⟨0, rfl, Nat.zero_le _, Below.refl _ _⟩
  case round =>
    obtain ⟨k, rfl, hk, hbw⟩ := hrel
    by_cases hlt : k < N3
    · have hkI : ((k : Int) < (N3 : Int)) := by omega
      obtain ⟨B, n, x, f1, f2, f3, f4, hB1, hB2, hn1', hn2'⟩ := float_at (v := v) (l := l) (t := t) (k := k) (by rw [hN2.out]; exact hlt)
      obtain ⟨ga, oa, rfl, hga, e1⟩ := Ints.number hv2'.out f1
      obtain ⟨gb, ob, rfl, hgb, e2⟩ := Ints.number hv3'.out f4
      obtain ⟨gc, oc, rfl, hgc, -, e3, -⟩ := Tms.at hv4'.out f2
      rw [f3] at e3
      have e1 := (hbw.cell (p := ⟨ga, oa + k, none⟩) hga).trans e1
      have e2 := (hbw.cell (p := ⟨gb, ob + k, none⟩) hgb).trans e2
      have e3 := (hbw.cell (p := ⟨gc, oc + k * 3 + 1, none⟩) hgc).trans e3
      have hk4 : k < N4 := by rw [← hN4'.out]; exact (List.getElem?_eq_some_iff.1 f2).1
      have hk4I : ((k : Int) < (N4 : Int)) := by omega
      have hsub : B + n - B = n := by omega
      have hbw' := Lib.hid hbw
      clear f1 f2 f3 f4 hbw
      go_upto_region 10 with fail
      go_quiet (fail)
      go_wp2
      go_roundw
      case rel => exact ⟨k + 1, by go_num, by omega, Place.below_drewN hbw'.out nq⟩
      case measure => simp [intOf]; omega
    · obtain rfl : k = N3 := by omega
      obtain ⟨wo, hwo⟩ : ∃ wo, wo = wr := ⟨_, rfl⟩
      subst hwo
      have hBo := Lib.hid (hB6.out.trans (hbw.mono hB6.out.size))
      have hPo := Lib.hid (hP6.out.keep hbw hP6.out.inside)
      have hNo := hN6.out.keep hbw hN6.out.inside
      have m0 := hNo.cell 0
      have m1 := hNo.cell 1
      simp at m0 m1
      clear hbw hB6 hP6 hN6 hNo hv2' hv3' hv4'
      have hPso := hPo.out.inside
      go_upto_region 13 with fail
      clear m0 m1
      generalize wrap64 ((IntKind.u64.wrap n0).tmod 13) = A at *
      generalize wrap64 ((IntKind.u64.wrap n1).tmod 200) = B at *
      have i0 : ∀ w, (Instr.index 64 (.agg #[.int .i64 n0, .int .i64 n1, .int .i64 A, .int .i64 B]) (.int .i64 0)).run Try.prog w = .ok (.agg #[.int .i64 n0, .int .i64 n1]) w := fun _ => by kernel_rfl
      have i1 : ∀ w, (Instr.index 64 (.agg #[.int .i64 n0, .int .i64 n1, .int .i64 A, .int .i64 B]) (.int .i64 1)).run Try.prog w = .ok (.agg #[.int .i64 A, .int .i64 B]) w := fun _ => by kernel_rfl
      go_loopw [111] (fun jj wr => ∃ j : Nat, jj = .int .i64 j ∧ j ≤ 2 ∧ Below wo.heap.size wo wr) (fun jj _ => 2 - (intOf jj).toNat)
      case atStart => exact ⟨0, rfl, by omega, Below.refl _ _⟩
      case round =>
        obtain ⟨j, rfl, hj, hbw⟩ := hrel
        obtain rfl | rfl | rfl : j = 0 ∨ j = 1 ∨ j = 2 := by omega
        · have hBr := Lib.hid (hbw.alloc hbw.size (.cells #[.int .i64 n0, .int .i64 n1] 34))
          have hK := At.new wr 34 #[.int .i64 n0, .int .i64 n1]
          go_upto_region 15 with fail
          obtain ⟨wa, hwa⟩ : ∃ wa, (wr.alloc (.cells #[.int .i64 n0, .int .i64 n1] 34)) = wa := ⟨_, rfl⟩
          obtain ⟨m, hm⟩ : ∃ m, wr.heap.size = m := ⟨_, rfl⟩
          rw [hwa] at hBr hK ⊢
          rw [hm] at hK ⊢
          have hPa := hPo.out.keep hBr.out hPo.out.inside
          have hRa := Lib.hid hBr.out
          have hBa := Lib.hid (hBo.out.trans (hBr.out.mono hBo.out.size))
          have k0 := hK.cell 0
          have k1 := hK.cell 1
          have p0 := hPa.cell 0
          have p1 := hPa.cell 1
          have p2 := hPa.cell 2
          have p3 := hPa.cell 3
          have p4 := hPa.cell 4
          simp at k0 k1 p0 p1 p2 p3 p4
          have hc := hPus.out (n0) (n1) wa hBa.out
          have hPas := hPa.inside
          have hKs := hK.inside
          have hPa' := Lib.hid hPa
          have hK' := Lib.hid hK
          obtain ⟨E1, hE1⟩ : ∃ E, pushE v l t n0 n1 = E := ⟨_, rfl⟩
          obtain ⟨H1, hH1⟩ : ∃ E, pushH v l t n0 n1 = E := ⟨_, rfl⟩
          have hc2 := fun W hb => hRPu.out (n0) (n1) W hb
          rw [hE1, hH1] at hc hc2
          have hc2' := Lib.hid hc2
          clear hPa hK hc2 hE1 hH1 hbw hwa hm hBr
          go_wp2_with fail
          refine hc.mono ?_
          clear hc p0 p1 p2 p3 p4 k0 k1
          rintro e wb ⟨⟨v1, rfl, hv1, _⟩, hb1⟩
          have hPb := hPa'.out.keep hb1 hPa'.out.inside
          have hKb := hK'.out.keep hb1 hK'.out.inside
          have hBb := Lib.hid (hBa.out.trans (hb1.mono hBa.out.size))
          have hRb := Lib.hid (hRa.out.trans (hb1.mono hRa.out.size))
          have hv1' := Lib.hid hv1
          have k0 := hKb.cell 0
          have k1 := hKb.cell 1
          have p0 := hPb.cell 0
          have p1 := hPb.cell 1
          have p2 := hPb.cell 2
          have p3 := hPb.cell 3
          have p4 := hPb.cell 4
          simp at k0 k1 p0 p1 p2 p3 p4
          have hc := hc2'.out wb hBb.out
          have hPbs := hPb.inside
          have hKbs := hKb.inside
          clear hPb hKb hb1 hv1 hBa hPa' hK'
          go_wp2_with fail
          refine hc.mono ?_
          clear hc p0 p1 p2 p3 p4 k0 k1
          rintro e wd ⟨⟨v2, rfl, hv2⟩, hb2⟩
          have hRd := Lib.hid (hRb.out.trans (hb2.mono hRb.out.size))
          have hc := Same_any v1 v2 _ _ wd (hv1'.out.on hb2) hv2
          rw [show decide (pushT v l t n0 n1 = pushT v l t n0 n1) = true from decide_eq_true rfl] at hc
          clear hb2 hv2 hv1' hBb
          go_wp2_with fail
          refine hc.mono ?_
          clear hc
          rintro e we ⟨rfl, hb3⟩
          have hRe := Lib.hid (hRd.out.trans (hb3.mono hRd.out.size))
          clear hb3 hRd hRb hRa
          go_wp2
          go_roundw
          case rel => exact ⟨1, by go_num, by omega, hRe.out⟩
          case measure => simp [intOf]
        · have hBr := Lib.hid (hbw.alloc hbw.size (.cells #[.int .i64 A, .int .i64 B] 34))
          have hK := At.new wr 34 #[.int .i64 A, .int .i64 B]
          go_upto_region 15 with fail
          obtain ⟨wa, hwa⟩ : ∃ wa, (wr.alloc (.cells #[.int .i64 A, .int .i64 B] 34)) = wa := ⟨_, rfl⟩
          obtain ⟨m, hm⟩ : ∃ m, wr.heap.size = m := ⟨_, rfl⟩
          rw [hwa] at hBr hK ⊢
          rw [hm] at hK ⊢
          have hPa := hPo.out.keep hBr.out hPo.out.inside
          have hRa := Lib.hid hBr.out
          have hBa := Lib.hid (hBo.out.trans (hBr.out.mono hBo.out.size))
          have k0 := hK.cell 0
          have k1 := hK.cell 1
          have p0 := hPa.cell 0
          have p1 := hPa.cell 1
          have p2 := hPa.cell 2
          have p3 := hPa.cell 3
          have p4 := hPa.cell 4
          simp at k0 k1 p0 p1 p2 p3 p4
          have hc := hPus.out (A) (B) wa hBa.out
          have hPas := hPa.inside
          have hKs := hK.inside
          have hPa' := Lib.hid hPa
          have hK' := Lib.hid hK
          obtain ⟨E1, hE1⟩ : ∃ E, pushE v l t A B = E := ⟨_, rfl⟩
          obtain ⟨H1, hH1⟩ : ∃ E, pushH v l t A B = E := ⟨_, rfl⟩
          have hc2 := fun W hb => hRPu.out (A) (B) W hb
          rw [hE1, hH1] at hc hc2
          have hc2' := Lib.hid hc2
          clear hPa hK hc2 hE1 hH1 hbw hwa hm hBr
          go_wp2_with fail
          refine hc.mono ?_
          clear hc p0 p1 p2 p3 p4 k0 k1
          rintro e wb ⟨⟨v1, rfl, hv1, _⟩, hb1⟩
          have hPb := hPa'.out.keep hb1 hPa'.out.inside
          have hKb := hK'.out.keep hb1 hK'.out.inside
          have hBb := Lib.hid (hBa.out.trans (hb1.mono hBa.out.size))
          have hRb := Lib.hid (hRa.out.trans (hb1.mono hRa.out.size))
          have hv1' := Lib.hid hv1
          have k0 := hKb.cell 0
          have k1 := hKb.cell 1
          have p0 := hPb.cell 0
          have p1 := hPb.cell 1
          have p2 := hPb.cell 2
          have p3 := hPb.cell 3
          have p4 := hPb.cell 4
          simp at k0 k1 p0 p1 p2 p3 p4
          have hc := hc2'.out wb hBb.out
          have hPbs := hPb.inside
          have hKbs := hKb.inside
          clear hPb hKb hb1 hv1 hBa hPa' hK'
          go_wp2_with fail
          refine hc.mono ?_
          clear hc p0 p1 p2 p3 p4 k0 k1
          rintro e wd ⟨⟨v2, rfl, hv2⟩, hb2⟩
          have hRd := Lib.hid (hRb.out.trans (hb2.mono hRb.out.size))
          have hc := Same_any v1 v2 _ _ wd (hv1'.out.on hb2) hv2
          rw [show decide (pushT v l t A B = pushT v l t A B) = true from decide_eq_true rfl] at hc
          clear hb2 hv2 hv1' hBb
          go_wp2_with fail
          refine hc.mono ?_
          clear hc
          rintro e we ⟨rfl, hb3⟩
          have hRe := Lib.hid (hRd.out.trans (hb3.mono hRd.out.size))
          clear hb3 hRd hRb hRa
          go_wp2
          go_roundw
          case rel => exact ⟨2, by go_num, by omega, hRe.out⟩
          case measure => simp [intOf]
        · have hR := Lib.hid (hBo.out.trans (hbw.mono hBo.out.size))
          go_wp2
          go_ret
          exact ⟨rfl, hR.out⟩

end Go.Proofs.Ytfoflfeaegfnnaa.Slack
